/- laid, Sum of a Hasher, Sum. -/
import Derived.Test.YtjmjnecobaoofaaDoorSH6
namespace Go.Proofs.YtjmjnecobaoofaaDoor
set_option linter.unusedVariables false
set_option linter.unusedSimpArgs false
open Go.RowKit

/-- A key while it is laid: its first k bytes, and zeros. -/
def keyK (s : S8) (k : Nat) : List UInt8 := (bytes8 s).take k ++ List.replicate (32 - k) 0
theorem bytes8_len (s : S8) : (bytes8 s).length = 32 := by simp [bytes8]
theorem bytes8_at (s : S8) (k : Nat) (hk : k < 32) : (bytes8 s)[k]'(by rw [bytes8_len]; exact hk) = UInt8.ofNat (s.nats[k / 4]?.getD 0 / 2 ^ (24 - 8 * (k % 4)) % 256) := by simp [bytes8]
theorem keyK_set (s : S8) (k : Nat) (hk : k < 32) : (keyK s k).set k (UInt8.ofNat (s.nats[k / 4]?.getD 0 / 2 ^ (24 - 8 * (k % 4)) % 256)) = keyK s (k + 1) := by
  have hl : k < (bytes8 s).length := by rw [bytes8_len]; exact hk
  have h1 : ((bytes8 s).take k).length = k := by rw [List.length_take]; omega
  unfold keyK
  rw [List.set_append_right _ _ (by omega), h1, Nat.sub_self, show 32 - k = (32 - (k + 1)) + 1 by omega, List.replicate_succ, List.set_cons_zero, List.take_succ_eq_append_getElem hl, List.append_assoc, bytes8_at s k hk]
  rfl
theorem keyK_len (s : S8) (k : Nat) (hk : k ≤ 32) : (keyK s k).length = 32 := by simp [keyK, bytes8_len]; omega
theorem keyK_all (s : S8) : keyK s 32 = bytes8 s := by
  unfold keyK
  rw [List.take_of_length_le (by rw [bytes8_len]; omega)]; simp
theorem keyK_next (s : S8) (k : Nat) (hk : k < 32) : ∃ q : Int, ((keyK s k).map u8c)[k]? = some (.int .u8 q) := by
  have hl := keyK_len s k (by omega)
  exact ⟨_, by rw [List.getElem?_map, List.getElem?_eq_getElem (by omega)]; rfl⟩
theorem byte_cell (x : Nat) : u8c (UInt8.ofNat (x % 256)) = .int .u8 ((x % 256 : Nat) : Int) := by
  unfold u8c
  rw [UInt8.toNat_ofNat', Nat.mod_mod]
set_option maxRecDepth 40000 in
set_option maxHeartbeats 4000000 in
theorem laid_any (w : World) (s : S8) (hs : s.ok) : Calls Tryd.prog 38 #[s.val] w fun e w' => e = .returned (.agg ((bytes8 s).map u8c).toArray) ∧ Below w.heap.size w w' := by
  have HOK := hide hs
  obtain ⟨sv, hsv⟩ : ∃ sv, sv = s := ⟨_, rfl⟩
  obtain ⟨a, b, c, d, e, f, g, h⟩ := s
  unfold S8.val
  simp only []
  clear hs
  go_enter Tryd.func38, Tryd.ntmps38
  go_wp2
  go_loopw [5] (fun i wr => ∃ k : Nat, i = .int .i64 k ∧ k ≤ 32 ∧ Blk8 wr w.heap.size sv ∧ Blk wr (w.heap.size + 1) ((List.replicate 32 (0 : UInt8)).map u8c).toArray 24 ∧ Blk wr (w.heap.size + 2) ((keyK sv k).map u8c).toArray 24 ∧ Below w.heap.size w wr) (fun i _ => 32 - (intOf i).toNat)
  case atStart =>
    refine ⟨0, rfl, by omega, by rw [hsv]; exact ((Blk.made w _ _).alloc _).alloc _, ?_, ?_, (((Below.refl _ _).alloc (Nat.le_refl _) _).alloc (by simp) _).alloc (by simp; omega) _⟩
    · have h1 := (Blk.made (w.alloc (.cells #[.int .u32 a, .int .u32 b, .int .u32 c, .int .u32 d, .int .u32 e, .int .u32 f, .int .u32 g, .int .u32 h] 56)) ((List.replicate 32 (0 : UInt8)).map u8c).toArray 24).alloc (.cells ((List.replicate 32 (0 : UInt8)).map u8c).toArray 24)
      rw [World.size_alloc] at h1
      exact h1
    · have h1 := Blk.made ((w.alloc (.cells #[.int .u32 a, .int .u32 b, .int .u32 c, .int .u32 d, .int .u32 e, .int .u32 f, .int .u32 g, .int .u32 h] 56)).alloc (.cells ((List.replicate 32 (0 : UInt8)).map u8c).toArray 24)) ((List.replicate 32 (0 : UInt8)).map u8c).toArray 24
      rw [World.size_alloc, World.size_alloc] at h1
      exact h1
  case round =>
    obtain ⟨k, rfl, hk, h8, hZ, hK, hbel⟩ := hrel
    by_cases hlt : k < 32
    · have hq4 : k / 4 < 8 := by omega
      have c1 := Blk8.at h8 (k / 4) hq4
      have hx := nats_lt (show sv.ok by rw [hsv]; exact HOK.out) (k / 4)
      obtain ⟨q, hq⟩ := keyK_next sv k hlt
      have c2 := blk_at hK hq
      have hf := hK.frozen k
      have hset := blk_set hK k (u8c (UInt8.ofNat (sv.nats[k / 4]?.getD 0 / 2 ^ (24 - 8 * (k % 4)) % 256)))
      rw [← List.map_set, keyK_set sv k hlt] at hset
      generalize sv.nats[k / 4]?.getD 0 = x at c1 hx hset
      obtain ⟨j, hj⟩ : ∃ j, j = k / 4 := ⟨_, rfl⟩
      obtain ⟨i, hi⟩ : ∃ i, i = 24 - 8 * (k % 4) := ⟨_, rfl⟩
      rw [← hj] at c1
      rw [← hi] at hset
      have e1 : (k : Int) / 4 = j := by omega
      have e2 : 24 - (k : Int) % 4 * 8 = (i : Int) := by omega
      have hj8 : (j : Int) < 8 := by omega
      have hi24 : i ≤ 24 := by omega
      have HSET := hide hset
      have H8 := hide h8
      have HZ := hide hZ
      clear hset h8 hZ hK hq hj hi hq4
      go_wp2
      refine ⟨⟨k + 1, by go_num, by omega, Blk.setOther H8.out ⟨w.heap.size + 1 + 1, k, none⟩ _ (by show w.heap.size ≠ w.heap.size + 1 + 1; omega), HZ.out.setOther ⟨w.heap.size + 1 + 1, k, none⟩ _ (by show w.heap.size + 1 ≠ w.heap.size + 1 + 1; omega), ?_, hbel.setCell (by show w.heap.size ≤ w.heap.size + 1 + 1; omega) _⟩, by simp [intOf]; omega⟩
      have h := HSET.out
      rw [byte_cell] at h
      simpa using h
    · obtain rfl : k = 32 := by omega
      rw [keyK_all] at hK
      have HZ := hide hZ
      have HK := hide hK
      obtain ⟨kc, hkc⟩ : ∃ kc, kc = ((bytes8 sv).map u8c).toArray := ⟨_, rfl⟩
      rw [← hkc] at HK
      have HL := hide (show kc.size = 32 by rw [hkc]; simp [bytes8_len])
      have HO := hide (show kc.all (·.oneCell') = true by rw [hkc]; exact all_oneCell_toArray (u8c_one (bytes8 sv)))
      have HZL := hide (show ((List.replicate 32 (0 : UInt8)).map u8c).toArray.size = 32 by simp)
      have HKC := hide hkc
      have HSV := hide hsv
      clear hZ hK hkc h8 hsv
      go_wp2_with (first | ((with_reducible refine wpList_load_blk ?_ 24 _ Tryd.underlying24 ?_ 32 infoKey (.tmp 3) ?_ (w.heap.size + 2) ?_ kc _ HK.out HL.out ?_); rfl; rfl; rfl; rfl) | ((with_reducible refine wpList_store_blk ?_ 24 (.tmp 2) (.tmp 21) ?_ (w.heap.size + 1) 32 _ kc 24 HL.out HZL.out ?_ ?_ HZ.out infoKey HO.out ?_); rfl; rfl; rfl; rfl; intro w2 hk2 hg2))
      refine bodyPost_ret (results_cell rfl _ _ _ rfl _ (loadBlkT hk2 24 _ Tryd.underlying24 rfl 32 infoKey HL.out)) rfl ?_
      refine ⟨by rw [HKC.out, HSV.out], hbel.trans ⟨hg2.os, hg2.tape, hg2.output, hg2.size, fun i hi => hg2.block i (Nat.lt_of_lt_of_le hi hbel.size) (fun e => by have := Option.some.inj e; omega)⟩⟩
end Go.Proofs.YtjmjnecobaoofaaDoor
