/- Signs and digits: strings.IndexByte at the sixteen digits; value, digitsAlone, digit. -/
import Derived.Test.YtnloglecfbhpcaaKD0
import Derived.Test.YtnloglecfbhpcaaKP1
import Derived.Lib.BytesEntry
import Derived.StillTailTactics
import Derived.Maps.OwnSet
import Derived.DeepKeys4
namespace Go.Proofs.Ytnloglecfbhpcaa
set_option linter.unusedVariables false
set_option linter.unusedSimpArgs false
open Go.RowKit

set_option maxRecDepth 20000 in
set_option maxHeartbeats 1000000 in
theorem slIndex_any (s : ByteArray) (c : Int) (w : World) : Calls Try.prog 54 #[.string s, .int .u8 c] w fun e w' => e = .returned (.int .i64 (Lib.indexByte s.data.toList c.toNat.toUInt8)) ∧ w' = w := by
  go_enter Try.func54, Try.ntmps54
  go_wp2
  rw [run_callFunc_extern Try.func58 (by kernel_rfl) (by kernel_rfl) (by kernel_rfl) (e := Extern.BytealgIndexByte.indexByte) (by kernel_rfl), Lib.run_indexByteString]
  simp only [Result.andThen]
  rw [Oper.upon_value]
  go_wp2
  go_ret
  exact ⟨rfl, rfl⟩
set_option maxRecDepth 20000 in
set_option maxHeartbeats 1000000 in
theorem sIndex_any (s : ByteArray) (c : Int) (w : World) : Calls Try.prog 49 #[.string s, .int .u8 c] w fun e w' => e = .returned (.int .i64 (Lib.indexByte s.data.toList c.toNat.toUInt8)) ∧ w' = w := by
  go_enter Try.func49, Try.ntmps49
  go_wp2_with fail
  refine (slIndex_any s c w).mono ?_
  rintro e w' ⟨rfl, rfl⟩
  go_wp2
  go_ret
  exact ⟨rfl, rfl⟩
theorem byte_back (c : UInt8) : ((c.toNat : Int).toNat).toUInt8 = c := by
  rw [Int.toNat_natCast]; exact UInt8.ofNat_toNat
theorem sIndex_hex (c : UInt8) (w : World) : Calls Try.prog 49 #[.string ⟨#[48, 49, 50, 51, 52, 53, 54, 55, 56, 57, 97, 98, 99, 100, 101, 102]⟩, .int .u8 (c.toNat : Int)] w fun e w' => e = .returned (.int .i64 (sgn c)) ∧ w' = w := by
  have := sIndex_any ⟨#[48, 49, 50, 51, 52, 53, 54, 55, 56, 57, 97, 98, 99, 100, 101, 102]⟩ (c.toNat : Int) w
  rw [byte_back] at this
  exact this
set_option maxRecDepth 20000 in
set_option maxHeartbeats 1000000 in
theorem digits_any (s : List UInt8) (hs : s.length ≤ 9223372036854775807) (w : World) : Calls Try.prog 40 #[.string ⟨s.toArray⟩] w fun e w' => e = .returned (.bool (allDig s)) ∧ w' = w := by
  go_enter Try.func40, Try.ntmps40
  go_wp2
  go_loopw [6] (fun i wr => ∃ k : Nat, i = .int .i64 k ∧ k ≤ s.length ∧ allDig (s.take k) = true ∧ wr = w) (fun i _ => s.length - (intOf i).toNat)
  case atStart => exact ⟨0, rfl, by omega, rfl, rfl⟩
  case round =>
    obtain ⟨k, rfl, hk, hd, rfl⟩ := hrel
    by_cases hlt : k < s.length
    · have hat : s[k]? = some s[k] := List.getElem?_eq_getElem hlt
      obtain ⟨c, hc⟩ : ∃ c, c = s[k] := ⟨_, rfl⟩
      rw [← hc] at hat
      have HX := hide (fun (v : Int) (hv : v = (c.toNat : Int)) => hv ▸ sIndex_hex c wr)
      have HC := hide hc
      have hnx : allDig (s.take (k + 1)) = (allDig (s.take k) && decide (0 ≤ sgn c)) := by
        unfold allDig
        rw [List.take_succ_eq_append_getElem hlt, List.all_append, ← hc]; simp
      have hal : allDig s = true → 0 ≤ sgn c := by
        intro h
        have := List.all_eq_true.1 h s[k] (List.getElem_mem _)
        rw [hc]
        exact of_decide_eq_true this
      by_cases hg : 0 ≤ sgn c
      · have hg2 : ¬ sgn c < 0 := by omega
        have HD : Hid (allDig (s.take (k + 1)) = true) := hide (by rw [hnx, hd]; simpa using hg)
        clear hnx hal hd
        clear hc
        go_wp2_with fail
        refine (HX.out _ (by rw [HC.out]; rfl)).mono ?_
        rintro e w' ⟨rfl, rfl⟩
        go_wp2
        exact ⟨⟨k + 1, by go_num, by omega, HD.out, by trivial⟩, by simp [intOf]; omega⟩
      · have hg2 : sgn c < 0 := by omega
        have HD : Hid (allDig s = false) := by
          cases h : allDig s with
          | false => exact rfl
          | true => exact absurd (hal h) hg
        clear hnx hal hd
        clear hc
        go_wp2_with fail
        refine (HX.out _ (by rw [HC.out]; rfl)).mono ?_
        rintro e w' ⟨rfl, rfl⟩
        go_wp2
        go_ret
        exact ⟨by rw [HD.out]; rfl, rfl⟩
    · have hn2 : ¬ (k : Int) < s.length := by omega
      have HD : Hid (allDig s = true) := by rw [List.take_of_length_le (by omega)] at hd; exact hd
      clear hd
      go_wp2
      go_ret
      exact ⟨by rw [HD.out]; rfl, rfl⟩
theorem dig_at (n : Nat) (h : n < 16) : ((⟨#[48, 49, 50, 51, 52, 53, 54, 55, 56, 57, 97, 98, 99, 100, 101, 102]⟩ : ByteArray)[n]'h) = dig n := by
  unfold dig
  rw [List.getD_eq_getElem?_getD, List.getElem?_eq_getElem (show n < hexD.length from h)]; rfl
set_option maxRecDepth 20000 in
set_option maxHeartbeats 1000000 in
theorem digit_any (k : List UInt8) (hk : k.length = 32) (i : Nat) (hi : i < 64) (w : World) : Calls Try.prog 37 #[keyV k, .int .i64 (i : Int)] w fun e w' => e = .returned (.int .u8 ((digitAt k i).toNat : Int)) ∧ Below w.heap.size w w' := by
  unfold keyV
  obtain ⟨b, hb⟩ : ∃ b, k[i / 2]? = some b := ⟨_, List.getElem?_eq_getElem (by omega)⟩
  have hb2 : Option.map u8c k[i / 2]? = some (.int .u8 (b.toNat : Int)) := by rw [hb]; rfl
  have HB := hide hb
  have HX := hide (Below.refl w.heap.size w)
  clear hb
  obtain ⟨n, hn⟩ : ∃ n, n = (if i % 2 = 0 then b.toNat / 16 else b.toNat % 16) := ⟨_, rfl⟩
  have hb256 := b.toNat_lt
  have hn16 : n < 16 := by rw [hn]; split <;> omega
  have hat : digitAt k i = dig n := by
    unfold digitAt
    rw [List.getD_eq_getElem?_getD, HB.out, hn]; rfl
  rw [hat]
  have hbit : ∀ m : Nat, m < 256 → bits .and .u8 (m : Int) 15 = ((m % 16 : Nat) : Int) := of_decide_eq_true (by kernel_rfl)
  have HAT := hide hat
  clear hat
  by_cases he : i % 2 = 0
  · have he2 : (i : Int) % 2 = 0 := by omega
    rw [if_pos he] at hn
    have hq : (b.toNat : Int) / 16 = (n : Int) := by omega
    have hand := hbit n (by omega)
    rw [Nat.mod_eq_of_lt hn16] at hand
    clear hbit hn
    go_enter Try.func37, Try.ntmps37
    go_wp2
    go_ret
    exact ⟨congrArg (fun c : UInt8 => Ending.returned (Value.int .u8 (c.toNat : Int))) (dig_at n hn16), HX.out.alloc (Nat.le_refl _) _⟩
  · have he2 : ¬ (i : Int) % 2 = 0 := by omega
    rw [if_neg he] at hn
    have hand := hbit b.toNat (by omega)
    rw [← hn] at hand
    clear hbit hn
    go_enter Try.func37, Try.ntmps37
    go_wp2
    go_ret
    exact ⟨congrArg (fun c : UInt8 => Ending.returned (Value.int .u8 (c.toNat : Int))) (dig_at n hn16), HX.out.alloc (Nat.le_refl _) _⟩
end Go.Proofs.Ytnloglecfbhpcaa

/- Hex, and the order. -/
namespace Go.Proofs.Ytnloglecfbhpcaa
set_option linter.unusedVariables false
set_option linter.unusedSimpArgs false
open Go.RowKit

theorem strOf_u8 (xs : List UInt8) : strOfNums (xs.map fun u => (u.toNat : Int)) = ⟨xs.toArray⟩ := by
  have : ((fun n : Int => UInt8.ofNat n.toNat) ∘ fun u : UInt8 => (u.toNat : Int)) = id := by funext u; simp
  simp [strOfNums, this]

theorem conv_rd (w : World) (v : Value) (xs : List UInt8) (h : Rd w v xs) : (convert 75 9 v).run Try.prog w = .ok (.string ⟨xs.toArray⟩) w := by
  obtain ⟨ao, c, rfl, hc, hm, hcel⟩ := h
  rcases Nat.eq_zero_or_pos xs.length with h0 | hpos
  · obtain rfl : xs = [] := List.eq_nil_of_length_eq_zero h0
    rcases hcel with ⟨rfl, _⟩ | ⟨b, o, rfl, _⟩
    · exact run_convert_bytes_nil (P := Try.prog) w 75 5 Try.underlying75 Try.underlying5 _ _ 9 Try.underlying9
    · exact run_convert_bytes_arg (P := Try.prog) w 75 5 Try.underlying75 Try.underlying5 b o 0 c [] rfl (fun i hi => by omega) 9 Try.underlying9
  · obtain ⟨b, o, rfl, hcell⟩ : ∃ b o, ao = some ⟨b, o, none⟩ ∧ ∀ i (h : i < xs.length), w.cell? ⟨b, o + i, none⟩ = some (u8c xs[i]) := by
      rcases hcel with ⟨_, h⟩ | h
      · omega
      · exact h
    have := run_convert_bytes_arg (P := Try.prog) w 75 5 Try.underlying75 Try.underlying5 b o xs.length c (xs.map fun u => (u.toNat : Int)) (by simp)
      (fun i hi => by rw [hcell i hi]; simp [u8c, List.getD, List.getElem?_eq_getElem hi]) 9 Try.underlying9
    rw [this, strOf_u8]

theorem Rd_blk {w : World} {b : Nat} {xs : List UInt8} {t : TypeId} (hB : Blk w b (xs.map u8c).toArray t) (hm : xs.length ≤ maxLen) (n : Nat) (hn : xs.length = n) : Rd w (.slice (some ⟨b, 0, none⟩) n n) xs := by
  subst hn
  refine ⟨some ⟨b, 0, none⟩, xs.length, rfl, Nat.le_refl _, hm, .inr ⟨b, 0, rfl, fun i hi => ?_⟩⟩
  rw [Nat.zero_add, hB.cell]
  simp [List.getElem?_eq_getElem hi]

theorem KeyAt.set {w : World} {z : Nat} {bs : List UInt8} (h : KeyAt w z bs) (a : Addr) (v : Value) (hne : z ≠ a.block) : KeyAt (w.setCell a v) z bs := ⟨h.1.setOther a v hne, h.2⟩
theorem slice_txt (z : Nat) (W : World) : (Instr.sliceAt 73 (.pointer (some ⟨z, 0, none⟩)) none none none).run Try.prog W = .ok (.slice (some ⟨z, 0, none⟩) 64 64) W := by kernel_rfl
def txt0 : Array Value := ((List.replicate 64 (0 : UInt8)).map u8c).toArray
theorem zero_txt (W : World) : (zeroValue 73).run Try.prog W = .ok (.agg txt0) W := by kernel_rfl
theorem zero_key (W : World) : (zeroValue 38).run Try.prog W = .ok (.agg keyZ) W := by kernel_rfl
/-- The first k digits of a key, and noughts behind them. -/
def hexTo (b : List UInt8) (k : Nat) : List UInt8 := (hexOf b).take k ++ List.replicate (64 - k) 0
theorem hexTo_len (b : List UInt8) (hb : b.length = 32) (k : Nat) (hk : k ≤ 64) : (hexTo b k).length = 64 := by
  unfold hexTo; rw [List.length_append, List.length_take, hexOf_len, List.length_replicate]; omega
theorem hexTo_set (b : List UInt8) (hb : b.length = 32) (k : Nat) (hk : k < 64) : (hexTo b k).set k (digitAt b k) = hexTo b (k + 1) := by
  have hl : ((hexOf b).take k).length = k := by rw [List.length_take, hexOf_len]; omega
  unfold hexTo
  rw [List.set_append_right _ _ (by omega), hl, Nat.sub_self, show 64 - k = (64 - (k + 1)) + 1 by omega, List.replicate_succ, List.set_cons_zero, List.take_add_one, hexOf_at b k (by omega)]
  simp
theorem hexTo_all (b : List UInt8) (hb : b.length = 32) : hexTo b 64 = hexOf b := by
  unfold hexTo
  rw [List.take_of_length_le (by rw [hexOf_len]; omega)]; simp
set_option maxRecDepth 20000 in
set_option maxHeartbeats 1000000 in
theorem hex_any (k : List UInt8) (hk : k.length = 32) (w : World) : Calls Try.prog 14 #[keyV k] w fun e w' => e = .returned (.string ⟨(hexOf k).toArray⟩) ∧ Below w.heap.size w w' := by
  have hzt := zero_txt
  unfold keyV
  go_enter Try.func14, Try.ntmps14
  go_wp2
  have HK : Hid (KeyAt ((w.alloc (.cells (k.map u8c).toArray 38)).alloc (.cells txt0 73)) w.heap.size k) := hide ⟨(Blk.made w _ _).alloc _, hk⟩
  have HT : Hid (Blk ((w.alloc (.cells (k.map u8c).toArray 38)).alloc (.cells txt0 73)) (w.heap.size + 1) ((hexTo k 0).map u8c).toArray 73) := hide (blk_made1 w _ _ _ _)
  have HB : Hid (Below w.heap.size w ((w.alloc (.cells (k.map u8c).toArray 38)).alloc (.cells txt0 73))) := hide (((Below.refl _ _).alloc (Nat.le_refl _) _).alloc (by simp) _)
  go_loopw [5] (fun i wr => ∃ j : Nat, i = .int .i64 j ∧ j ≤ 64 ∧ KeyAt wr w.heap.size k ∧ Blk wr (w.heap.size + 1) ((hexTo k j).map u8c).toArray 73 ∧ Below w.heap.size w wr) (fun i _ => 64 - (intOf i).toNat)
  case atStart => exact ⟨0, rfl, by omega, HK.out, HT.out, HB.out⟩
  case round =>
    clear HK HT HB
    obtain ⟨j, rfl, hj, hK, hT, hB⟩ := hrel
    by_cases hlt : j < 64
    · have HC := hide (digit_any k hk j hlt wr)
      have HK := hide hK
      have HT := hide hT
      have hl := hexTo_len k hk j hj
      obtain ⟨d, hd⟩ : ∃ d, d = digitAt k j := ⟨_, rfl⟩
      have HS := hide (hexTo_set k hk j hlt)
      rw [← hd] at HC HS
      clear hK hT hd
      go_wp2_with ((with_reducible refine wpList_key (.tmp 1) w.heap.size k HK.out ?_ ?_ ?_ ?_); rfl; rfl; rfl)
      refine HC.out.mono ?_
      rintro e w' ⟨rfl, hb'⟩
      have hT' := HT.out.below hb' HT.out.lt
      have hz := HT.out.lt
      have c1 : w'.cell? ⟨w.heap.size + 1, j, none⟩ = some (u8c ((hexTo k j)[j]'(by omega))) := by rw [hT'.cell]; simp [List.getElem?_eq_getElem (show j < (hexTo k j).length by omega)]
      have c2 := hT'.frozen j
      have HT2 := hide (hT'.set j (u8c d))
      have HK2 := hide (HK.out.below hb')
      clear hT' HC HT HK
      go_wp2
      have HB2 : Hid (Blk (w'.setCell ⟨w.heap.size + 1, j, none⟩ (.int .u8 (d.toNat : Int))) (w.heap.size + 1) ((hexTo k (j + 1)).map u8c).toArray 73) := by
        have := HT2.out
        rw [← HS.out, List.map_set]
        rw [List.setIfInBounds_toArray] at this
        exact this
      exact ⟨⟨j + 1, by go_num, by omega, HK2.out.set _ _ (by show w.heap.size ≠ w.heap.size + 1; omega), HB2.out, (hB.trans (hb'.mono hB.size)).setCell (by show w.heap.size ≤ w.heap.size + 1; omega) _⟩, by simp [intOf]; omega⟩
    · obtain rfl : j = 64 := by omega
      rw [hexTo_all k hk] at hT
      have hst := slice_txt (w.heap.size + 1)
      have hcv := conv_rd wr _ _ (Rd_blk hT (by rw [hexOf_len, hk]; decide) 64 (by rw [hexOf_len, hk]))
      clear hT hK
      go_wp2
      go_ret
      exact ⟨rfl, hB⟩
end Go.Proofs.Ytnloglecfbhpcaa

/- The order of keys. -/
namespace Go.Proofs.Ytnloglecfbhpcaa
set_option linter.unusedVariables false
set_option linter.unusedSimpArgs false
open Go.RowKit

theorem load_key {P : Program} {w : World} {z : Nat} {a : List UInt8} (h : KeyAt w z a) (c : Nat) : (Extern.Bytes.bytesOf (.slice (some ⟨z, 0, none⟩) 32 c)).run P w = .ok ⟨a.toArray⟩ w := by
  have := Lib.run_loadBytesX (P := P) w (a.map fun u => (u.toNat : Int)) ⟨z, 0, none⟩ .empty (fun j x hj => by
    rw [Addr.add_mid, Nat.zero_add, h.1.cell]
    rw [List.getElem?_map] at hj
    obtain ⟨u, hu, rfl⟩ := Option.map_eq_some_iff.1 hj
    simp [hu, u8c])
  rw [List.length_map, h.2] at this
  show (Extern.Bytes.loadBytes ⟨z, 0, none⟩ 32 .empty).run P w = _
  rw [this]
  have e : Lib.bytesOf (a.map fun u => (u.toNat : Int)) = a := by
    have : ((fun n : Int => UInt8.ofNat n.toNat) ∘ fun u : UInt8 => (u.toNat : Int)) = id := by funext u; simp
    simp [Lib.bytesOf, this]
  rw [e]
  simp
theorem bCompare_any (w : World) (za zb ca cb : Nat) (a b : List UInt8) (ha : KeyAt w za a) (hb : KeyAt w zb b) : Calls Try.prog 48 #[.slice (some ⟨za, 0, none⟩) 32 ca, .slice (some ⟨zb, 0, none⟩) 32 cb] w fun e w' => e = .returned (.int .i64 (cmpK a b)) ∧ w' = w := by
  have hx : (Extern.BytealgCompare.compare #[.slice (some ⟨za, 0, none⟩) 32 ca, .slice (some ⟨zb, 0, none⟩) 32 cb]).run Try.prog w = .ok (.int .i64 (cmpK a b)) w := by
    change Sem.run Try.prog (do pure (goInt (Extern.BytealgCompare.cmp (← Extern.Bytes.bytesOf (.slice (some ⟨za, 0, none⟩) 32 ca)) (← Extern.Bytes.bytesOf (.slice (some ⟨zb, 0, none⟩) 32 cb))))) w = _
    simp only [Sem.run_bind, load_key ha, load_key hb, Sem.run_pure, Result.andThen]
    rw [Lib.cmp_eq]
    rfl
  go_enter Try.func48, Try.ntmps48
  go_wp2
  rw [run_callFunc_extern Try.func53 (by kernel_rfl) (by kernel_rfl) (by kernel_rfl) (e := Extern.BytealgCompare.compare) (by kernel_rfl), hx]
  simp only [Result.andThen]
  rw [Oper.upon_value]
  go_wp2
  go_ret
  exact ⟨rfl, rfl⟩
theorem equalKeys (a b : List UInt8) (ha : a.length = 32) (hb : b.length = 32) (w : World) : (Op.equalIn 10000 38 (.agg (a.map u8c).toArray) (.agg (b.map u8c).toArray)).run Try.prog w = .ok (a == b) w :=
  run_equalIn_bytes (P := Try.prog) w 9998 38 5 32 Try.underlying38 Try.underlying5 szU8 a b ha hb
theorem keysGuard (op : BinOp) (a b : List UInt8) (x y : Operand) (w : World) : (eqGuard op 38 x y (keyV a) (keyV b)).run Try.prog w = .ok () w := run_eqGuard_agg (P := Try.prog) w op 38 x y _ _ guardKey
theorem keysEql (a b : List UInt8) (ha : a.length = 32) (hb : b.length = 32) (w : World) : (binOp .eql 38 (keyV a) (keyV b)).run Try.prog w = .ok (.bool (a == b)) w := by
  unfold keyV
  rw [run_eql_struct, equalKeys a b ha hb]; rfl
theorem keysNeq (a b : List UInt8) (ha : a.length = 32) (hb : b.length = 32) (w : World) : (binOp .neq 38 (keyV a) (keyV b)).run Try.prog w = .ok (.bool (!(a == b))) w := by
  unfold keyV
  rw [run_neq_struct, equalKeys a b ha hb]; rfl
theorem slice_key (z : Nat) (W : World) : (Instr.sliceAt 38 (.pointer (some ⟨z, 0, none⟩)) none none none).run Try.prog W = .ok (.slice (some ⟨z, 0, none⟩) 32 32) W := by kernel_rfl
set_option maxRecDepth 20000 in
set_option maxHeartbeats 1000000 in
theorem compare_any (a b : List UInt8) (ha : a.length = 32) (hb : b.length = 32) (w : World) : Calls Try.prog 39 #[keyV a, keyV b] w fun e w' => e = .returned (.int .i64 (cmpK a b)) ∧ Below w.heap.size w w' := by
  have hg1 := keysGuard .eql a b
  have hn1 := keysEql a b ha hb
  have hsk := slice_key
  have HA : Hid (KeyAt ((w.alloc (.cells (a.map u8c).toArray 38)).alloc (.cells (b.map u8c).toArray 38)) w.heap.size a) := hide ⟨(Blk.made w _ _).alloc _, ha⟩
  have HB : Hid (KeyAt ((w.alloc (.cells (a.map u8c).toArray 38)).alloc (.cells (b.map u8c).toArray 38)) (w.heap.size + 1) b) := hide ⟨blk_made1 w _ _ _ _, hb⟩
  have HW : Hid (Below w.heap.size w ((w.alloc (.cells (a.map u8c).toArray 38)).alloc (.cells (b.map u8c).toArray 38))) := hide (((Below.refl _ _).alloc (Nat.le_refl _) _).alloc (by simp) _)
  by_cases heq : a = b
  · have HQ : Hid (cmpK a b = 0) := hide (by rw [heq]; exact cmpK_self b)
    have hab : (a == b) = true := by rw [heq]; exact beq_self_eq_true b
    rw [hab] at hn1
    clear hab heq
    show Calls Try.prog 39 #[.agg (a.map u8c).toArray, .agg (b.map u8c).toArray] w _
    go_enter Try.func39, Try.ntmps39
    go_wp2_with (first | ((with_reducible refine wpList_key (.tmp 2) w.heap.size a HA.out ?_ ?_ ?_ ?_); rfl; rfl; rfl) | ((with_reducible refine wpList_key (.tmp 3) (w.heap.size + 1) b HB.out ?_ ?_ ?_ ?_); rfl; rfl; rfl))
    go_ret
    exact ⟨by rw [HQ.out]; rfl, HW.out⟩
  · have hab : (a == b) = false := by simpa using heq
    rw [hab] at hn1
    clear hab heq
    show Calls Try.prog 39 #[.agg (a.map u8c).toArray, .agg (b.map u8c).toArray] w _
    go_enter Try.func39, Try.ntmps39
    go_wp2_with (first | ((with_reducible refine wpList_key (.tmp 2) w.heap.size a HA.out ?_ ?_ ?_ ?_); rfl; rfl; rfl) | ((with_reducible refine wpList_key (.tmp 3) (w.heap.size + 1) b HB.out ?_ ?_ ?_ ?_); rfl; rfl; rfl))
    have HC := hide (fun d os => bCompare_any (Sort.grow (redrawn ((w.alloc (.cells (a.map u8c).toArray 38)).alloc (.cells (b.map u8c).toArray 38)) d) os) w.heap.size (w.heap.size + 1) 32 32 a b (HA.out.below (below_regrown _ d os)) (HB.out.below (below_regrown _ d os)))
    refine wp_region_quiet_below (by kernel_rfl) (by kernel_rfl) ?_
    quiet_step (fail)
    quiet_step (fail)
    quiet_step (exact Calls.regrown_of ((HC.out _ _).mono fun e w' h => ⟨h.1, by rw [h.2]; exact Below.refl _ _⟩))
    quiet_step (fail)
    refine wpQuiet_nil ?_
    intro _ hw'
    obtain ⟨⟨dq, osq⟩, hw''⟩ := hw'
    subst hw''
    go_wp2
    go_ret
    exact ⟨rfl, HW.out.trans ((below_regrown _ dq osq).mono HW.out.size)⟩
end Go.Proofs.Ytnloglecfbhpcaa

/- Keys: loaded out of a row; two results. -/
namespace Go.Proofs.Ytnloglecfbhpcaa
set_option linter.unusedVariables false
set_option linter.unusedSimpArgs false
open Go.RowKit

theorem results_cell2 {fn : Func} {p q : Tmp} {ty : TypeId} (h : fn.results = #[.cell p ty, .tmp q]) (tmps : Array Value) (w : World) (a : Addr) (ha : tmps.getD p undef = .pointer (some a)) (v : Value) (hl : (loadVar ty a).run Try.prog w = .ok v w) :
    (results fn tmps).run Try.prog w = .ok (.tuple #[v, tmps.getD q undef]) w := by
  simp only [results, h]
  have ha' : tmps[p]?.getD undef = .pointer (some a) := by simpa using ha
  simp [Sem.run_bind, Result.andThen, ha', asAddr, hl]
theorem loadAt_key {w : World} {z o : Nat} {bs : List UInt8} (hl : bs.length = 32) (hc : w.rangeAt z o (bs.map u8c)) : (Instr.loadAt 38 (.pointer (some ⟨z, o, none⟩))).run Try.prog w = .ok (keyV bs) w := by
  have := run_loadVar_mid (P := Try.prog) w z o 38 (bs.map u8c) _ hc Try.underlying38 rfl (by rw [List.length_map, hl]; exact infoKey)
  simp only [Instr.loadAt, Instr.sureAddr, Sem.run_bind, Sem.run_pure, Result.andThen_ok]
  exact this
theorem wpList_load_keyAt {ops : Array Oper} {rest : List Oper} {op : Oper} {a : Act} {w : World} {Q : Exit → Act → World → Prop} (x : Operand)
    (z o : Nat) (bs : List UInt8) (hl : bs.length = 32) (hc : w.rangeAt z o (bs.map u8c)) (ho : op.op = .load 38 x) (hx : a.eval x = .pointer (some ⟨z, o, none⟩)) (hg : Region.wanted op (yielded ops a.tmps) = true)
    (h : wpList Try.prog ops Q rest (a.put op.dst (keyV bs)) w) : wpList Try.prog ops Q (op :: rest) a w :=
  wpList_val _ hg (run_load ho hx (loadAt_key hl hc)) h
end Go.Proofs.Ytnloglecfbhpcaa

/- Sets of keys: a map by whole keys. -/
namespace Go.Proofs.Ytnloglecfbhpcaa
set_option linter.unusedVariables false
set_option linter.unusedSimpArgs false
open Go.RowKit
open Go.Maps (Keyed)

theorem laidOutK : laidOutB Try.prog = true := by kernel_rfl
theorem keyedK : Keyed Try.prog 38 := Keyed.of_law (deep_law_laid laidOutK (m := 2) (by decide) (of_decide_eq_true (by kernel_rfl)) (by kernel_rfl) (by kernel_rfl))
theorem keyByte (b : UInt8) : Lit.keyBytes (.int .u8 (b.toNat : Int)) = [b] := of_byte (p := fun b => Lit.keyBytes (.int .u8 (b.toNat : Int)) = [b]) (of_decide_eq_true (by kernel_rfl)) b
theorem mapM_all {α β : Type} {f : α → Option β} {g : α → β} : ∀ l : List α, (∀ x ∈ l, f x = some (g x)) → l.mapM f = some (l.map g)
  | [], _ => rfl
  | x :: r, h => by
    rw [List.mapM_cons, h x (by simp), mapM_all r (fun y hy => h y (by simp [hy]))]; rfl
theorem keyTypeK : Try.prog.keyType 38 = true := by kernel_rfl
theorem cellsKeyK : Try.prog.cellsOf 38 = 32 := by kernel_rfl
theorem cellsU8K : Try.prog.cellsOf 5 = 1 := by kernel_rfl
theorem sizeTK : ∃ n, Try.prog.types.size = n + 1 := ⟨Try.prog.types.size - 1, by have : 0 < Try.prog.types.size := of_decide_eq_true (by kernel_rfl); omega⟩
theorem litByte (b : UInt8) : (Lit.int .u8 (b.toNat : Int)).wf = true := of_byte (p := fun b => (Lit.int .u8 (b.toNat : Int)).wf = true) (of_decide_eq_true (by kernel_rfl)) b
theorem keyLits_array {P : Program} {d n : Nat} {t e : TypeId} {cs : List Value} (hu : P.underlying t = some (.array n e)) : P.keyLits (d + 1) t cs = if cs.length = P.cellsOf t then ((List.range n).mapM fun i => P.keyLits d e ((cs.drop (i * P.cellsOf e)).take (P.cellsOf e))).map List.flatten else none := by
  conv => lhs; unfold Program.keyLits
  simp only [hu]
theorem keyLits_int {P : Program} {d : Nat} {t : TypeId} {q : IntKind} {n : Int} (hu : P.underlying t = some (.int q)) (hw : (Lit.int q n).wf = true) : P.keyLits (d + 1) t [.int q n] = some [.int q n] := by
  unfold Program.keyLits; rw [hu]; simp [hw]
theorem keyOf_array {P : Program} {n : Nat} {k e : TypeId} {v : Value} (hu : P.underlying k = some (.array n e)) : keyOf P k v = if (P.keyType k && v.formed P k) = true then (P.keyLits (P.types.size + 1) k v.cells.toList).map fun ls => .string (keyBytes ls) else none := by
  unfold keyOf; rw [hu]
theorem bytes_lits : ∀ k : List UInt8, keyBytes (k.map fun b => Lit.int .u8 (b.toNat : Int)) = k
  | [] => rfl
  | b :: r => by
    have := bytes_lits r
    unfold keyBytes at this ⊢
    rw [List.map_cons, List.flatMap_cons, keyByte, this]; rfl
theorem flat_lits : ∀ k : List UInt8, (k.map fun b => [Lit.int .u8 (b.toNat : Int)]).flatten = k.map fun b => Lit.int .u8 (b.toNat : Int)
  | [] => rfl
  | b :: r => by rw [List.map_cons, List.flatten_cons, flat_lits r]; rfl
theorem range_lits (k : List UInt8) (h : k.length = 32) : (List.range 32).map (fun i => [Lit.int .u8 ((k.getD i 0).toNat : Int)]) = k.map (fun b => [Lit.int .u8 (b.toNat : Int)]) := by
  apply List.ext_getElem?
  intro i
  rcases Nat.lt_or_ge i 32 with hi | hi
  · simp [hi, List.getElem?_eq_getElem (show i < k.length by omega)]
  · rw [List.getElem?_eq_none (by simpa using hi), List.getElem?_eq_none (by simpa [h] using hi)]
/-- A key reads as its bytes. -/
theorem keyOf_key (k : List UInt8) (h : k.length = 32) : keyOf Try.prog 38 (keyV k) = some (.string k) := by
  obtain ⟨n, hn⟩ := sizeTK
  have hf : (keyV k).formed Try.prog 38 = true := by
    simp [Value.formed, keyV, Try.underlying38, cellsKeyK, h]
  have hl : Try.prog.keyLits (Try.prog.types.size + 1) 38 (keyV k).cells.toList = some (k.map fun b => Lit.int .u8 (b.toNat : Int)) := by
    have hc : (keyV k).cells.toList = k.map u8c := by simp [keyV, Value.cells]
    rw [hc, keyLits_array Try.underlying38, if_pos (by rw [List.length_map, cellsKeyK, h])]
    simp only [cellsU8K, Nat.mul_one]
    rw [mapM_all (g := fun i => [Lit.int .u8 ((k.getD i 0).toNat : Int)])]
    · rw [Option.map_some, range_lits k h, flat_lits]
    · intro i hi
      have hi' : i < k.length := by rw [h]; exact List.mem_range.1 hi
      rw [hn, List.drop_eq_getElem_cons (by simpa using hi')]
      simp only [List.take_succ_cons, List.take_zero, List.getElem_map, u8c]
      rw [List.getD_eq_getElem?_getD, List.getElem?_eq_getElem hi', Option.getD_some]
      exact keyLits_int Try.underlying5 (litByte _)
  rw [keyOf_array Try.underlying38, if_pos (by rw [keyTypeK, hf]; rfl), hl, Option.map_some, bytes_lits]
end Go.Proofs.Ytnloglecfbhpcaa
