/- The head of a record: what stands ahead of the sum, and the sum. -/
import Derived.Test.YtbnedlcldfpfdaaFR6
namespace Go.Proofs.Ytbnedlcldfpfdaa
set_option linter.unusedVariables false
set_option linter.unusedSimpArgs false
open Go.RowKit

theorem elemU8 : Try.prog.underlying 22 = some (.slice (Try.prog.elem 22)) := by kernel_rfl
theorem sizeU8 (W : World) : (sizeOf (Try.prog.elem 22)).run Try.prog W = .ok 1 W := by kernel_rfl
theorem RdA.sliced {w : World} {ao : Option Addr} {n c : Nat} {xs : List UInt8} (h : RdA w (.slice ao n c) xs) (i j : Nat) (h1 : i ≤ j) (h2 : j ≤ n) : RdA w (sliced ao i j c 1) ((xs.drop i).take (j - i)) := by
  rcases h with ⟨ao', c', e, hc, hm, hcel⟩ | ⟨a, e, rfl⟩
  · cases e
    have hlen : ((xs.drop i).take (j - i)).length = j - i := by rw [List.length_take, List.length_drop]; omega
    unfold Go.sliced
    rcases hcel with ⟨rfl, rfl⟩ | ⟨b, o, rfl, hcell⟩
    · obtain rfl : i = 0 := by omega
      obtain rfl : j = 0 := by omega
      exact .inl (Rd_none w)
    · by_cases hci : c = i
      · subst hci
        have : j - c = 0 := by omega
        rw [if_pos rfl, this, List.take_zero, Nat.sub_self]
        exact .inr ⟨_, rfl, rfl⟩
      · rw [if_neg hci, Nat.mul_one]
        simp only [Option.map_some]
        rw [Addr.add_mid]
        refine .inl ⟨some ⟨b, o + i, none⟩, c - i, by rw [hlen], by rw [hlen]; omega, by omega, .inr ⟨b, o + i, rfl, fun k hk => ?_⟩⟩
        rw [hlen] at hk
        rw [Nat.add_assoc, hcell (i + k) (by omega)]
        simp
  · cases e
    obtain rfl : i = 0 := by omega
    obtain rfl : j = 0 := by omega
    exact .inr ⟨a, rfl, rfl⟩
theorem slice_lo (ao : Option Addr) (n c i : Nat) (h : i ≤ n) (q : Int) (hq : q = i) (W : World) : (Instr.sliceAt 22 (.slice ao n c) (some (.int .i64 q)) none none).run Try.prog W = .ok (sliced ao i n c 1) W := by
  subst hq
  rw [run_sliceAt_slice _ _ _ _ _ _ elemU8, run_slice_l W 22 ao n c elemU8 .i64 i (by omega) (by omega), sizeU8]
  simp [Result.andThen]
theorem slice_hi (ao : Option Addr) (n c j : Nat) (h : j ≤ c) (q : Int) (hq : q = j) (W : World) : (Instr.sliceAt 22 (.slice ao n c) none (some (.int .i64 q)) none).run Try.prog W = .ok (sliced ao 0 j c 1) W := by
  subst hq
  rw [run_sliceAt_slice _ _ _ _ _ _ elemU8, run_slice_h W 22 ao n c elemU8 .i64 j (by omega) (by omega), sizeU8]
  simp [Result.andThen]
theorem slice_lh (ao : Option Addr) (n c i j : Nat) (h1 : i ≤ j) (h : j ≤ c) (p q : Int) (hp : p = i) (hq : q = j) (W : World) : (Instr.sliceAt 22 (.slice ao n c) (some (.int .i64 p)) (some (.int .i64 q)) none).run Try.prog W = .ok (sliced ao i j c 1) W := by
  subst hp hq
  rw [run_sliceAt_slice _ _ _ _ _ _ elemU8, run_slice_lh W 22 ao n c elemU8 .i64 .i64 i j (by omega) (by omega) (by omega), sizeU8]
  simp [Result.andThen]
theorem RdA.cap {w : World} {ao : Option Addr} {n c : Nat} {xs : List UInt8} (h : RdA w (.slice ao n c) xs) : n = xs.length ∧ n ≤ c ∧ c ≤ maxLen := by
  rcases h with ⟨ao', c', e, hc, hm, _⟩ | ⟨a, e, rfl⟩
  · cases e; exact ⟨rfl, hc, hm⟩
  · cases e; exact ⟨rfl, Nat.le_refl _, Nat.zero_le _⟩
/-- A row of bytes that lies in a block of its own, as an array. -/
theorem RdA_arr {w : World} {z : Nat} {xs : List UInt8} {t : TypeId} (h : Blk w z (xs.map u8c).toArray t) (hm : xs.length ≤ maxLen) : RdA w (.slice (some ⟨z, 0, none⟩) xs.length xs.length) xs := by
  refine .inl ⟨_, xs.length, rfl, Nat.le_refl _, hm, .inr ⟨z, 0, rfl, fun i hi => ?_⟩⟩
  rw [Nat.zero_add, h.cell]
  simp [hi]
theorem info6 : (Try.prog.info? 58).map (·.size) = some 6 := by kernel_rfl
theorem info4 : (Try.prog.info? 47).map (·.size) = some 4 := by kernel_rfl
theorem slice6 (z : Nat) (W : World) : (Instr.sliceAt 58 (.pointer (some ⟨z, 0, none⟩)) none none none).run Try.prog W = .ok (.slice (some ⟨z, 0, none⟩) 6 6) W := by kernel_rfl
theorem slice4 (z : Nat) (W : World) : (Instr.sliceAt 47 (.pointer (some ⟨z, 0, none⟩)) none none none).run Try.prog W = .ok (.slice (some ⟨z, 0, none⟩) 4 4) W := by kernel_rfl

/-- The head up to the sum, of a body of n bytes. -/
def openL (n : Nat) : List UInt8 := [199, .ofNat n, .ofNat (n / 256), .ofNat (65535 - n), .ofNat ((65535 - n) / 256), 1]
/-- A number of 32 bits, the lowest byte first. -/
def le4 (s : Nat) : List UInt8 := [.ofNat s, .ofNat (s / 256), .ofNat (s / 65536), .ofNat (s / 16777216)]
def sealL (o xs : List UInt8) : List UInt8 := le4 (moreN 0 (o ++ xs))
theorem wrap8 (n : Nat) : IntKind.u8.wrap (n : Int) = ((UInt8.ofNat n).toNat : Int) := by rw [IntKind.wrap_u8', UInt8.toNat_ofNat']; omega
def arrV (xs : List UInt8) : Value := .agg (xs.map u8c).toArray
def ArrC (w : World) (xs : List UInt8) (e : Ending) (w' : World) : Prop := e = .returned (arrV xs) ∧ Below w.heap.size w w'
set_option maxRecDepth 40000 in
set_option maxHeartbeats 4000000 in
theorem opening_any (w : World) (n : Nat) (hn : n ≤ 65535) : Calls Try.prog 30 #[.int .i64 (n : Int)] w (ArrC w (openL n)) := by
  have q1 := wrap8 n
  have q2 : IntKind.u8.wrap ((n : Int) / 256) = ((UInt8.ofNat (n / 256)).toNat : Int) := by rw [← wrap8]; congr 1
  have q3 : IntKind.u8.wrap (65535 - (n : Int)) = ((UInt8.ofNat (65535 - n)).toNat : Int) := by rw [← wrap8]; congr 1; omega
  have q4 : IntKind.u8.wrap ((65535 - (n : Int)) / 256) = ((UInt8.ofNat ((65535 - n) / 256)).toNat : Int) := by rw [← wrap8]; congr 1; omega
  have HO : Hid (openL n = [199, .ofNat n, .ofNat (n / 256), .ofNat (65535 - n), .ofNat ((65535 - n) / 256), 1]) := hide rfl
  obtain ⟨a1, h1⟩ : ∃ a, a = UInt8.ofNat n := ⟨_, rfl⟩
  obtain ⟨a2, h2⟩ : ∃ a, a = UInt8.ofNat (n / 256) := ⟨_, rfl⟩
  obtain ⟨a3, h3⟩ : ∃ a, a = UInt8.ofNat (65535 - n) := ⟨_, rfl⟩
  obtain ⟨a4, h4⟩ : ∃ a, a = UInt8.ofNat ((65535 - n) / 256) := ⟨_, rfl⟩
  rw [← h1] at q1 HO
  rw [← h2] at q2 HO
  rw [← h3] at q3 HO
  rw [← h4] at q4 HO
  clear h1 h2 h3 h4
  go_enter Try.func30, Try.ntmps30
  have hk := Blk.made w (([199, a1, a2, a3, a4, 1] : List UInt8).map u8c).toArray 58
  go_wp2
  refine bodyPost_ret (results_cell rfl _ _ _ rfl _ (loadBlkT hk 58 _ Try.underlying58 rfl 6 info6 rfl)) rfl ?_
  exact ⟨by rw [HO.out]; rfl, (Below.refl _ _).alloc (Nat.le_refl _) _⟩
set_option maxRecDepth 40000 in
set_option maxHeartbeats 4000000 in
theorem seal_any (w : World) (o : List UInt8) (ho : o.length = 6) (v : Value) (xs : List UInt8) (hv : RdA w v xs) : Calls Try.prog 31 #[arrV o, v] w (ArrC w (sealL o xs)) := by
  unfold arrV
  obtain ⟨oc, hoc⟩ : ∃ oc, oc = (o.map u8c).toArray := ⟨_, rfl⟩
  rw [← hoc]
  have HB0 := hide (((Below.refl w.heap.size w).alloc (Nat.le_refl _) (.cells oc 58)).alloc (by simp) (.cells #[.int .u8 0, .int .u8 0, .int .u8 0, .int .u8 0] 47))
  have HR0 : Hid (RdA ((w.alloc (.cells oc 58)).alloc (.cells #[.int .u8 0, .int .u8 0, .int .u8 0, .int .u8 0] 47)) (.slice (some ⟨w.heap.size, 0, none⟩) 6 6) o) := by
    have h := RdA_arr (xs := o) (t := 58) (by rw [← hoc]; exact (Blk.made w oc 58).alloc (.cells #[.int .u8 0, .int .u8 0, .int .u8 0, .int .u8 0] 47)) (by rw [ho]; decide)
    rw [ho] at h
    exact h
  have HZ : Hid (Blk ((w.alloc (.cells oc 58)).alloc (.cells #[.int .u8 0, .int .u8 0, .int .u8 0, .int .u8 0] 47)) (w.heap.size + 1) #[.int .u8 0, .int .u8 0, .int .u8 0, .int .u8 0] 47) := by
    have h := Blk.made (w.alloc (.cells oc 58)) #[.int .u8 0, .int .u8 0, .int .u8 0, .int .u8 0] 47
    rw [World.size_alloc] at h
    exact h
  have hs6 := slice6 w.heap.size
  have HV := hide hv
  clear hoc hv
  go_enter Try.func31, Try.ntmps31
  go_wp2_with fail
  refine (crc_any _ _ o HR0.out).mono ?_
  rintro e w1 ⟨rfl, hb1⟩
  have HB1 := hide (HB0.out.trans (hb1.mono HB0.out.size))
  have HZ1 := hide (HZ.out.below hb1 HZ.out.lt)
  clear hb1 HB0 HZ HR0 hs6
  go_wp2_with fail
  refine (more_any _ _ (moreN_lt 0 o) _ xs (HV.out.below HB1.out)).mono ?_
  rintro e w2 ⟨rfl, hb2⟩
  rw [moreN_append]
  have HB2 := hide (Below.step HB1.out hb2)
  have HZ2 := hide (HZ1.out.below hb2 HZ1.out.lt)
  clear hb2 HB1 HZ1
  have HS : Hid (sealL o xs = le4 (moreN 0 (o ++ xs))) := hide rfl
  obtain ⟨s, hs⟩ : ∃ s, s = moreN 0 (o ++ xs) := ⟨_, rfl⟩
  rw [← hs] at HS ⊢
  clear hs
  have q1 := wrap8 s
  have q2 : IntKind.u8.wrap ((s : Int) / 256) = ((UInt8.ofNat (s / 256)).toNat : Int) := by rw [← wrap8]; congr 1
  have q3 : IntKind.u8.wrap ((s : Int) / 65536) = ((UInt8.ofNat (s / 65536)).toNat : Int) := by rw [← wrap8]; congr 1
  have q4 : IntKind.u8.wrap ((s : Int) / 16777216) = ((UInt8.ofNat (s / 16777216)).toNat : Int) := by rw [← wrap8]; congr 1
  unfold le4 at HS
  obtain ⟨a1, h1⟩ : ∃ a, a = UInt8.ofNat s := ⟨_, rfl⟩
  obtain ⟨a2, h2⟩ : ∃ a, a = UInt8.ofNat (s / 256) := ⟨_, rfl⟩
  obtain ⟨a3, h3⟩ : ∃ a, a = UInt8.ofNat (s / 65536) := ⟨_, rfl⟩
  obtain ⟨a4, h4⟩ : ∃ a, a = UInt8.ofNat (s / 16777216) := ⟨_, rfl⟩
  rw [← h1] at q1 HS
  rw [← h2] at q2 HS
  rw [← h3] at q3 HS
  rw [← h4] at q4 HS
  clear h1 h2 h3 h4
  have HO1 : Hid ((#[Value.int .u8 (a1.toNat : Int), .int .u8 (a2.toNat : Int), .int .u8 (a3.toNat : Int), .int .u8 (a4.toNat : Int)] : Array Value).all (·.oneCell') = true) := hide (by simp [Value.oneCell'])
  go_wp2_with ((with_reducible refine wpList_store_blk ?_ 47 (.tmp 4) (.tmp 21) ?_ (w.heap.size + 1) 4 _ #[.int .u8 (a1.toNat : Int), .int .u8 (a2.toNat : Int), .int .u8 (a3.toNat : Int), .int .u8 (a4.toNat : Int)] 47 ?_ ?_ ?_ ?_ HZ2.out info4 HO1.out ?_); rfl; rfl; rfl; rfl; rfl; rfl; intro w3 hk3 hg3)
  refine bodyPost_ret (results_cell rfl _ _ _ rfl _ (loadBlkT hk3 47 _ Try.underlying47 rfl 4 info4 rfl)) rfl ?_
  exact ⟨by rw [HS.out]; rfl, HB2.out.trans (below_grownBy hg3 (by omega) HB2.out.size)⟩
end Go.Proofs.Ytbnedlcldfpfdaa
