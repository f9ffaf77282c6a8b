/- begins, shared: the first digits of keys. -/
import Derived.Test.YtnloglecfbhpcaaKN13
namespace Go.Proofs.Ytnloglecfbhpcaa
set_option linter.unusedVariables false
set_option linter.unusedSimpArgs false
open Go.RowKit Go.Shelf
set_option maxRecDepth 100000

/-- Do a key's digits begin with these? -/
def begK (k s : List UInt8) : Bool := (hexOf k).take s.length == s
theorem take_next {a s : List UInt8} {j : Nat} {x : UInt8} (h : a.take j = s.take j) (h1 : a[j]? = some x) (h2 : s[j]? = some x) : a.take (j + 1) = s.take (j + 1) := by
  rw [List.take_add_one, List.take_add_one, h, h1, h2]
theorem begK_no {k s : List UInt8} {j : Nat} {x y : UInt8} (h1 : (hexOf k)[j]? = some x) (h2 : s[j]? = some y) (hne : x ≠ y) : begK k s = false := by
  unfold begK
  have hj : j < s.length := (List.getElem?_eq_some_iff.1 h2).1
  refine beq_eq_false_iff_ne.2 fun e => hne ?_
  have h3 : ((hexOf k).take s.length)[j]? = some x := by rw [List.getElem?_take_of_lt hj]; exact h1
  rw [e, h2] at h3
  exact (Option.some.inj h3).symm
theorem begK_yes {k s : List UInt8} (h : (hexOf k).take s.length = s.take s.length) : begK k s = true := by
  unfold begK
  rw [List.take_length] at h
  exact beq_iff_eq.2 h
set_option maxHeartbeats 1000000 in
theorem begins_any (k : List UInt8) (hk : k.length = 32) (s : List UInt8) (hs : s.length ≤ 64) (w : World) : Calls Try.prog 41 #[keyV k, .string ⟨s.toArray⟩] w fun e w' => e = .returned (.bool (begK k s)) ∧ Below w.heap.size w w' := by
  unfold keyV
  go_enter Try.func41, Try.ntmps41
  go_wp2
  have HK : Hid (KeyAt (w.alloc (.cells (k.map u8c).toArray 38)) w.heap.size k) := hide ⟨Blk.made w _ _, hk⟩
  have HB : Hid (Below w.heap.size w (w.alloc (.cells (k.map u8c).toArray 38))) := hide ((Below.refl _ _).alloc (Nat.le_refl _) _)
  go_loopw [8] (fun i wr => ∃ j : Nat, i = .int .i64 j ∧ j ≤ s.length ∧ KeyAt wr w.heap.size k ∧ (hexOf k).take j = s.take j ∧ Below w.heap.size w wr) (fun i _ => s.length - (intOf i).toNat)
  case atStart => exact ⟨0, rfl, by omega, HK.out, by simp, HB.out⟩
  case round =>
    clear HK HB
    obtain ⟨j, rfl, hj, hK, hT, hB⟩ := hrel
    by_cases hlt : j < s.length
    · have hat : s[j]? = some s[j] := List.getElem?_eq_getElem hlt
      obtain ⟨c, hc⟩ : ∃ c, c = s[j] := ⟨_, rfl⟩
      rw [← hc] at hat
      have hji : (j : Int) < (s.length : Int) := by omega
      have HAt := hide (hexOf_at k j (by omega))
      obtain ⟨d, hd⟩ : ∃ d, d = digitAt k j := ⟨_, rfl⟩
      have HC := hide (fun dd os => digit_any k hk j (by omega) (Sort.grow (redrawn wr dd) os))
      rw [← hd] at HC HAt
      have HML := hide (fun dd os => (hK.below (below_regrown wr dd os)).load)
      have HK := hide hK
      have HT := hide hT
      have HB := hide hB
      have HJ := hide hj
      have HHat := hide hat
      have HIx : Hid (∀ h : j < (⟨s.toArray⟩ : ByteArray).size, (⟨s.toArray⟩ : ByteArray)[j]'h = c) := hide (fun h => hc.symm ▸ rfl)
      clear hc hd hK hT hB
      go_upto_region 4 with fail
      refine wp_region_quiet_below (by kernel_rfl) (by kernel_rfl) ?_
      refine wpQuiet_val (keyV k) rfl (fun w hw => ?_) ?_
      · obtain ⟨p, rfl⟩ := hw
        exact run_load rfl rfl (HML.out _ _)
      quiet_step (fail)
      quiet_step (exact Calls.regrown_of (HC.out _ _))
      quiet_step (fail)
      quiet_step (fail)
      quiet_step (fail)
      simp only [HIx.out]
      by_cases hdc : d = c
      · subst hdc
        have HN := hide (take_next HT.out HAt.out HHat.out)
        clear HIx HC HML HT HAt
        quiet_step (fail)
        refine wpQuiet_nil ?_
        intro _ hw'
        obtain ⟨⟨dq, osq⟩, hw''⟩ := hw'
        subst hw''
        go_wp2
        exact ⟨⟨j + 1, by go_num, by omega, HK.out.below (below_regrown wr dq osq), HN.out, HB.out.trans ((below_regrown wr dq osq).mono HB.out.size)⟩, by simp [intOf]; omega⟩
      · have heq : ((d.toNat : Int) == (c.toNat : Int)) = false := by
          have : ¬ d.toNat = c.toNat := fun e => hdc (UInt8.toNat_inj.1 e)
          simp; omega
        have hne : ((d.toNat : Int) != (c.toNat : Int)) = true := by rw [bne, heq]; rfl
        have HN := hide (begK_no HAt.out HHat.out hdc)
        clear HIx HC HML HT HAt
        quiet_step (fail)
        refine wpQuiet_nil ?_
        intro _ hw'
        obtain ⟨⟨dq, osq⟩, hw''⟩ := hw'
        subst hw''
        go_wp2
        go_ret
        exact ⟨by rw [HN.out]; rfl, HB.out.trans ((below_regrown wr dq osq).mono HB.out.size)⟩
    · have hn2 : ¬ (j : Int) < s.length := by omega
      have HD : Hid (begK k s = true) := hide (begK_yes (by rw [show s.length = j by omega]; exact hT))
      have HB := hide hB
      clear hT hK hB
      go_wp2
      go_ret
      exact ⟨by rw [HD.out]; rfl, HB.out⟩
theorem hex_inj {a b : List UInt8} (h : hexOf a = hexOf b) : a = b := by rw [← unhex_hexOf a, ← unhex_hexOf b, h]
/-- Two unlike keys' first n digits are the same, and the next are not. -/
structure ShK (a b : List UInt8) (n : Nat) : Prop where
  lt : n < 64
  same : (hexOf a).take n = (hexOf b).take n
  next : digitAt a n ≠ digitAt b n
set_option maxHeartbeats 1000000 in
theorem shared_any (a b : List UInt8) (ha : a.length = 32) (hb : b.length = 32) (hab : a ≠ b) (w : World) : Calls Try.prog 44 #[keyV a, keyV b] w fun e w' => ∃ n : Nat, e = .returned (.int .i64 n) ∧ ShK a b n ∧ Below w.heap.size w w' := by
  have HA : Hid (KeyAt ((w.alloc (.cells (a.map u8c).toArray 38)).alloc (.cells (b.map u8c).toArray 38)) w.heap.size a) := hide ⟨(Blk.made w _ _).alloc _, ha⟩
  have HB : Hid (KeyAt ((w.alloc (.cells (a.map u8c).toArray 38)).alloc (.cells (b.map u8c).toArray 38)) (w.heap.size + 1) b) := hide ⟨blk_made1 w _ _ _ _, hb⟩
  have HW : Hid (Below w.heap.size w ((w.alloc (.cells (a.map u8c).toArray 38)).alloc (.cells (b.map u8c).toArray 38))) := hide (((Below.refl _ _).alloc (Nat.le_refl _) _).alloc (by simp) _)
  have HAB := hide hab
  clear hab
  show Calls Try.prog 44 #[.agg (a.map u8c).toArray, .agg (b.map u8c).toArray] w _
  go_enter Try.func44, Try.ntmps44
  go_wp2
  go_loopw [5] (fun i wr => ∃ j : Nat, i = .int .i64 j ∧ j ≤ 64 ∧ KeyAt wr w.heap.size a ∧ KeyAt wr (w.heap.size + 1) b ∧ (hexOf a).take j = (hexOf b).take j ∧ Below w.heap.size w wr) (fun i _ => 64 - (intOf i).toNat)
  case atStart => exact ⟨0, rfl, by omega, HA.out, HB.out, by simp, HW.out⟩
  case round =>
    clear HA HB HW
    obtain ⟨j, rfl, hj, hA, hB, hT, hW⟩ := hrel
    have hlt : j < 64 := by
      by_cases e : j = 64
      · rw [e, List.take_of_length_le (by rw [hexOf_len]; omega), List.take_of_length_le (by rw [hexOf_len]; omega)] at hT
        exact absurd (hex_inj hT) HAB.out
      · omega
    have HA1 := hide (hexOf_at a j (by omega))
    have HB1 := hide (hexOf_at b j (by omega))
    have HCa := hide (fun dd os => digit_any a ha j (by omega) (Sort.grow (redrawn wr dd) os))
    have HCb := hide (fun dd os => digit_any b hb j (by omega) (Sort.grow (redrawn wr dd) os))
    have HMa := hide (fun dd os => (hA.below (below_regrown wr dd os)).load)
    have HMb := hide (fun dd os => (hB.below (below_regrown wr dd os)).load)
    have HSh : Hid (digitAt a j ≠ digitAt b j → ShK a b j) := hide (fun h => ⟨hlt, hT, h⟩)
    obtain ⟨x, hx⟩ : ∃ x, x = digitAt a j := ⟨_, rfl⟩
    obtain ⟨y, hy⟩ : ∃ y, y = digitAt b j := ⟨_, rfl⟩
    rw [← hx] at HA1 HCa HSh
    rw [← hy] at HB1 HCb HSh
    have HA := hide hA
    have HB := hide hB
    have HT := hide hT
    have HW := hide hW
    clear hx hy hA hB hT hW
    go_upto_region 2 with fail
    refine wp_region_quiet_below (by kernel_rfl) (by kernel_rfl) ?_
    refine wpQuiet_val (keyV a) rfl (fun w hw => ?_) ?_
    · obtain ⟨p, rfl⟩ := hw
      exact run_load rfl rfl (HMa.out _ _)
    quiet_step (fail)
    quiet_step (exact Calls.regrown_of (HCa.out _ _))
    refine wpQuiet_val (keyV b) rfl (fun w hw => ?_) ?_
    · obtain ⟨p, rfl⟩ := hw
      exact run_load rfl rfl (HMb.out _ _)
    quiet_step (fail)
    quiet_step (exact Calls.regrown_of (HCb.out _ _))
    by_cases hdc : x = y
    · subst hdc
      have HN := hide (take_next HT.out HA1.out HB1.out)
      clear HCa HCb HMa HMb HT HA1 HB1 HSh
      quiet_step (fail)
      refine wpQuiet_nil ?_
      intro _ hw'
      obtain ⟨⟨dq, osq⟩, hw''⟩ := hw'
      subst hw''
      go_wp2
      exact ⟨⟨j + 1, by go_num, by omega, HA.out.below (below_regrown wr dq osq), HB.out.below (below_regrown wr dq osq), HN.out, HW.out.trans ((below_regrown wr dq osq).mono HW.out.size)⟩, by simp [intOf]; omega⟩
    · have heq : ((x.toNat : Int) == (y.toNat : Int)) = false := by
        have : ¬ x.toNat = y.toNat := fun e => hdc (UInt8.toNat_inj.1 e)
        simp; omega
      have HN := hide (HSh.out hdc)
      clear HCa HCb HMa HMb HT HA1 HB1 HSh
      quiet_step (fail)
      refine wpQuiet_nil ?_
      intro _ hw'
      obtain ⟨⟨dq, osq⟩, hw''⟩ := hw'
      subst hw''
      go_wp2
      go_ret
      exact ⟨j, rfl, HN.out, HW.out.trans ((below_regrown wr dq osq).mono HW.out.size)⟩
end Go.Proofs.Ytnloglecfbhpcaa
