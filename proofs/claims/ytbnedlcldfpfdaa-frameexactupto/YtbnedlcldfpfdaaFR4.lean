/- More and Crc: the program's sums. -/
import Derived.Test.YtbnedlcldfpfdaaFR3
namespace Go.Proofs.Ytbnedlcldfpfdaa
set_option linter.unusedVariables false
set_option linter.unusedSimpArgs false
open Go.RowKit

theorem not_nat (e : Nat) (he : e < 4294967296) : bits .xor .u32 IntKind.u32.max (e : Int) = ((4294967295 - e : Nat) : Int) := by
  have e1 : IntKind.u32.max = ((4294967295 : Nat) : Int) := by decide
  rw [e1, u32_xor_nat _ _ (by decide) he]
  congr 1
  apply Nat.eq_of_testBit_eq
  intro i
  have := Nat.testBit_two_pow_sub_succ (n := 32) he i
  rw [show 2 ^ 32 - (e + 1) = 4294967295 - e by omega] at this
  have h1 := Nat.testBit_two_pow_sub_one 32 i
  rw [show 2 ^ 32 - 1 = 4294967295 from rfl] at h1
  rw [Nat.testBit_xor, this, h1]
  by_cases hi : i < 32
  · simp [hi]
  · have : e.testBit i = false := Nat.testBit_lt_two_pow (Nat.lt_of_lt_of_le he (Nat.pow_le_pow_right (n := 2) (by decide) (by omega : 32 ≤ i)))
    simp [hi, this]
theorem tab8_at {w : World} {b : Nat} {t : TypeId} (h : Blk w b ((tabI 8).map u32i).toArray t) (j : Nat) (hj : j < 256) : w.cell? ⟨b, j, none⟩ = some (.int .u32 ((st8 j : Nat) : Int)) := by
  rw [h.tabAt j (by rw [tabI_len]; exact hj), tabI_eq, List.getElem?_map, tabL_at j hj]
  rfl
theorem regL_snoc (r : Nat) (xs : List UInt8) (k : Nat) (h : k < xs.length) : regL r (xs.take (k + 1)) = crcB (regL r (xs.take k)) xs[k] := by
  rw [List.take_succ_eq_append_getElem h, regL_append]; rfl
def SumC (w : World) (n : Nat) (e : Ending) (w' : World) : Prop := e = .returned (.int .u32 (n : Int)) ∧ Below w.heap.size w w'
set_option maxRecDepth 40000 in
set_option maxHeartbeats 4000000 in
theorem more_any (w : World) (s : Nat) (hs : s < 4294967296) (v : Value) (xs : List UInt8) (hv : RdA w v xs) : Calls Try.prog 22 #[.int .u32 (s : Int), v] w (SumC w (moreN s xs)) := by
  have hzv := zero_tab
  have HV := hide hv
  obtain ⟨ao, c, rfl, hl63⟩ := hv.slice
  have hn0 := not_nat s hs
  obtain ⟨r0, hr0⟩ : ∃ r0, r0 = 4294967295 - s := ⟨_, rfl⟩
  rw [← hr0] at hn0
  have HR0 := hide hr0
  have HZS : Hid (zT.size = 256) := hide (by kernel_rfl)
  have HTB := hide (fun w => table_any w)
  obtain ⟨cs, hcs⟩ : ∃ cs, cs = ((tabI 8).map u32i).toArray := ⟨_, rfl⟩
  have HCL : Hid (cs.size = 256) := hide (by rw [hcs]; simp [tabI_len])
  have HCO : Hid (cs.all (·.oneCell') = true) := hide (by rw [hcs]; exact u32i_one _)
  unfold TabC at HTB
  rw [← hcs] at HTB
  have HCS := hide hcs
  clear hv hr0 hcs
  go_enter Try.func22, Try.ntmps22
  go_wp2_with fail
  refine (HTB.out w).mono ?_
  rintro e w1 ⟨rfl, hb1⟩
  have HA := hide (Blk.made w1 zT 64)
  have HBB := hide hb1
  clear hb1
  go_wp2_with ((with_reducible refine wpList_store_blk ?_ 64 (.tmp 5) (.tmp 9) ?_ w1.heap.size 256 _ cs 64 HCL.out ?_ ?_ ?_ HA.out infoTab HCO.out ?_); rfl; rfl; exact HZS.out; rfl; rfl; intro w2 hk2 hg2)
  have HB2 := hide ((HBB.out.alloc HBB.out.size (.cells zT 64)).trans (below_grownBy hg2 (Nat.le_trans HBB.out.size (Nat.le_refl _)) (by have := HBB.out.size; simp; omega)))
  have HK2 : Hid (Blk w2 w1.heap.size ((tabI 8).map u32i).toArray 64) := hide (by rw [← HCS.out]; exact hk2)
  clear hk2 hg2
  go_loopw [6, 14] (fun reg i wr => ∃ k : Nat, reg = .int .u32 ((regL r0 (xs.take k) : Nat) : Int) ∧ i = .int .i64 k ∧ k ≤ xs.length ∧ wr = w2) (fun _ i _ => xs.length - (intOf i).toNat)
  case atStart => exact ⟨0, by simp [regL], rfl, by omega, rfl⟩
  case round =>
    obtain ⟨k, rfl, rfl, hk, rfl⟩ := hrel
    have hrl := regL_lt (xs.take k) (r := r0) (by rw [HR0.out]; omega)
    by_cases hlt : k < xs.length
    · have hki : (k : Int) < xs.length := by omega
      obtain ⟨bz, bo, cc, he, hcell⟩ := (HV.out.below HB2.out).at k hlt
      cases he
      have HS := hide (regL_snoc r0 xs k hlt)
      obtain ⟨x, hx⟩ : ∃ x, x = xs[k] := ⟨_, rfl⟩
      obtain ⟨r, hr⟩ : ∃ r, r = regL r0 (xs.take k) := ⟨_, rfl⟩
      rw [← hx, ← hr] at HS
      rw [← hx] at hcell
      rw [← hr] at hrl ⊢
      have hxl := x.toNat_lt
      have q1 : IntKind.u8.wrap (r : Int) = ((r % 256 : Nat) : Int) := by rw [IntKind.wrap_u8']; omega
      have q2 := u8_xor_nat (r % 256) x.toNat (Nat.mod_lt _ (by omega)) hxl
      obtain ⟨j, hj⟩ : ∃ j, j = (r % 256) ^^^ x.toNat := ⟨_, rfl⟩
      have hj256 : j < 256 := by rw [hj]; exact Nat.xor_lt_two_pow (n := 8) (Nat.mod_lt _ (by decide)) hxl
      have hct := tab8_at HK2.out j hj256
      have q3 : (r : Int) / 256 = ((r / 256 : Nat) : Int) := by omega
      have q4 := u32_xor_nat (st8 j) (r / 256) (st8_lt (by omega)) (by omega)
      have hc8 := crcB_tab (r := r) x
      rw [← hj] at hc8
      rw [hc8] at q4
      rw [← hj] at q2
      obtain ⟨m, hm⟩ : ∃ m, m = r % 256 := ⟨_, rfl⟩
      obtain ⟨d, hd⟩ : ∃ d, d = r / 256 := ⟨_, rfl⟩
      obtain ⟨t, ht⟩ : ∃ t, t = st8 j := ⟨_, rfl⟩
      obtain ⟨r', hr'⟩ : ∃ r', r' = crcB r x := ⟨_, rfl⟩
      rw [← hm] at q1 q2
      rw [← hd] at q3 q4
      rw [← ht] at q4 hct
      rw [← hr'] at q4 HS
      have hj0 : (j : Int) < 256 := by omega
      clear hj hc8 hm hd ht hr' hr hx
      go_wp2
      refine ⟨⟨k + 1, by rw [HS.out], by go_num, by omega, by trivial⟩, by simp [intOf]; omega⟩
    · obtain rfl : k = xs.length := by omega
      have hki : ¬ (xs.length : Int) < xs.length := by omega
      rw [List.take_length] at hrl ⊢
      have hn1 := not_nat _ hrl
      have HM : Hid (moreN s xs = 4294967295 - regL r0 xs) := hide (by unfold moreN; rw [HR0.out])
      obtain ⟨r, hr⟩ : ∃ r, r = regL r0 xs := ⟨_, rfl⟩
      rw [← hr] at hn1 HM ⊢
      obtain ⟨z, hz⟩ : ∃ z, z = 4294967295 - r := ⟨_, rfl⟩
      rw [← hz] at hn1 HM
      clear hr hz
      go_wp2
      go_ret
      exact ⟨by rw [HM.out]; rfl, HB2.out⟩
set_option maxRecDepth 40000 in
set_option maxHeartbeats 4000000 in
theorem crc_any (w : World) (v : Value) (xs : List UInt8) (hv : RdA w v xs) : Calls Try.prog 21 #[v] w (SumC w (moreN 0 xs)) := by
  have H := hide (more_any w 0 (by omega) v xs hv)
  clear hv
  go_enter Try.func21, Try.ntmps21
  go_wp2_with fail
  refine H.out.mono ?_
  rintro e w' ⟨rfl, hb⟩
  go_wp2
  go_ret
  exact ⟨rfl, hb⟩
end Go.Proofs.Ytbnedlcldfpfdaa
