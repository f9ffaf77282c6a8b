/- A record is packed. -/
import Derived.Test.YtbnedlcldfpfdaaFR9
namespace Go.Proofs.Ytbnedlcldfpfdaa
set_option linter.unusedVariables false
set_option linter.unusedSimpArgs false
open Go.RowKit

/-- A record of a body. -/
def packL (xs : List UInt8) : List UInt8 := openL xs.length ++ sealL (openL xs.length) xs ++ xs
theorem drewR {B : Nat} {w w' : World} (h : Below B w w') : Below B w w'.drew := ⟨h.os, h.tape, h.output, h.size, h.block⟩
def packR (xs : List UInt8) : List UInt8 := if xs.length ≤ 65526 then packL xs else []
def packE (xs : List UInt8) : Int := if xs.length ≤ 65526 then 0 else 60
theorem openL_len (n : Nat) : (openL n).length = 6 := rfl
theorem sealL_len (o xs : List UInt8) : (sealL o xs).length = 4 := rfl
theorem packL_len (xs : List UInt8) : (packL xs).length = 10 + xs.length := by
  unfold packL; rw [List.length_append, List.length_append, openL_len, sealL_len]
theorem RdA_arrN {w : World} {z : Nat} {xs : List UInt8} {t : TypeId} (h : Blk w z (xs.map u8c).toArray t) (n : Nat) (hn : xs.length = n) (hm : n ≤ maxLen) : RdA w (.slice (some ⟨z, 0, none⟩) n n) xs := by subst hn; exact RdA_arr h hm
theorem one6 (xs : List UInt8) : ((xs.map u8c).toArray).all (·.oneCell') = true := by simp [u8c, Value.oneCell']
def PackC (w : World) (xs : List UInt8) (e : Ending) (w' : World) : Prop := ∃ v, e = .returned (.tuple #[v, .int .i64 (packE xs)]) ∧ OwnsB w' w.heap.size v (packR xs) ∧ Below w.heap.size w w'
set_option maxRecDepth 40000 in
set_option maxHeartbeats 4000000 in
theorem pack_any (w : World) (v : Value) (xs : List UInt8) (hv : RdA w v xs) : Calls Try.prog 15 #[v] w (PackC w xs) := by
  have HV := hide hv
  obtain ⟨ao, c, rfl, hz⟩ := hv.slice
  clear hv
  by_cases hl : xs.length ≤ 65526
  · have hli : (xs.length : Int) ≤ 65526 := by omega
    have HR : Hid (packR xs = packL xs) := hide (if_pos hl)
    have HE : Hid (packE xs = 0) := hide (if_pos hl)
    obtain ⟨oc, hoc⟩ : ∃ oc, oc = ((openL xs.length).map u8c).toArray := ⟨_, rfl⟩
    obtain ⟨sc, hsc⟩ : ∃ sc, sc = ((sealL (openL xs.length) xs).map u8c).toArray := ⟨_, rfl⟩
    have HOL : Hid (oc.size = 6) := hide (by rw [hoc]; rfl)
    have HSL : Hid (sc.size = 4) := hide (by rw [hsc]; rfl)
    have HO1 : Hid (oc.all (·.oneCell') = true) := hide (by rw [hoc]; exact one6 _)
    have HS1 : Hid (sc.all (·.oneCell') = true) := hide (by rw [hsc]; exact one6 _)
    have HOC := hide hoc
    have HSC := hide hsc
    clear hoc hsc
    go_enter Try.func15, Try.ntmps15
    go_wp2_with fail
    refine (opening_any _ xs.length (by omega)).mono ?_
    rintro e w1 ⟨rfl, hb1⟩
    unfold arrV
    rw [← HOC.out]
    have HZ := hide (Blk.made w1 #[.int .u8 0, .int .u8 0, .int .u8 0, .int .u8 0, .int .u8 0, .int .u8 0] 58)
    have HB1 := hide hb1
    clear hb1
    go_wp2_with ((with_reducible refine wpList_store_blk ?_ 58 (.tmp 4) (.tmp 11) ?_ w1.heap.size 6 _ oc 58 HOL.out ?_ ?_ ?_ HZ.out info6 HO1.out ?_); rfl; rfl; rfl; rfl; rfl; intro w2 hk2 hg2; generalize hG : wpList _ _ _ _ _ _ = G)
    have HB2 := hide ((HB1.out.alloc HB1.out.size (.cells #[.int .u8 0, .int .u8 0, .int .u8 0, .int .u8 0, .int .u8 0, .int .u8 0] 58)).trans (below_grownBy hg2 HB1.out.size (by have := HB1.out.size; simp; omega)))
    have HK2 := hide hk2
    clear hk2 hg2 HZ
    subst hG
    go_wp2_with (first | fail | ((with_reducible refine wpList_load_blk ?_ 58 _ Try.underlying58 ?_ 6 info6 (.tmp 4) ?_ w1.heap.size ?_ oc _ HK2.out HOL.out ?_); rfl; rfl; rfl; rfl))
    rw [HOC.out]
    refine (seal_any w2 (openL xs.length) (openL_len _) _ xs (HV.out.below HB2.out)).mono ?_
    rintro e w3 ⟨rfl, hb3⟩
    unfold arrV
    rw [← HSC.out, ← HOC.out]
    have HB3 := hide (Below.step HB2.out hb3)
    have HK3 := hide (HK2.out.below hb3 HK2.out.lt)
    have HZ3 := hide (Blk.made w3 #[.int .u8 0, .int .u8 0, .int .u8 0, .int .u8 0] 47)
    clear hb3 HK2
    go_wp2_with ((with_reducible refine wpList_store_blk ?_ 47 (.tmp 5) (.tmp 14) ?_ w3.heap.size 4 _ sc 47 HSL.out ?_ ?_ ?_ HZ3.out info4 HS1.out ?_); rfl; rfl; rfl; rfl; rfl; intro w4 hk4 hg4; generalize hG : wpList _ _ _ _ _ _ = G)
    have HB34 : Hid (Below w3.heap.size w3 w4) := hide (((Below.refl w3.heap.size w3).alloc (Nat.le_refl _) _).trans (below_grownBy hg4 (Nat.le_refl _) (by simp)))
    have HB4 := hide (Below.step HB3.out HB34.out)
    have HK4 := hide (HK3.out.below HB34.out HK3.out.lt)
    have HS4 := hide hk4
    clear hk4 hg4 HZ3 HK3 HB34
    subst hG
    have hs6 := slice6 w1.heap.size
    have hs4 := slice4 w3.heap.size
    go_wp2
    refine wp_region_still_tail 3 (by kernel_rfl) (by kernel_rfl) ?_
    simp only [List.take_succ_cons, List.take_zero, List.drop_succ_cons, List.drop_zero]
    still_step
    still_step
    still_step
    refine wpStill_nil ?_
    change wpList _ _ _ _ _ w4.drew
    have HB45 : Hid (Below w4.heap.size w4 (w4.alloc (.cells #[.slice (some ⟨w1.heap.size, 0, none⟩) 6 6, .slice (some ⟨w3.heap.size, 0, none⟩) 4 4, .slice ao xs.length c] 22)).drew) := hide (drewR ((Below.refl w4.heap.size w4).alloc (Nat.le_refl _) _))
    have HP : Hid (Parts (w4.alloc (.cells #[.slice (some ⟨w1.heap.size, 0, none⟩) 6 6, .slice (some ⟨w3.heap.size, 0, none⟩) 4 4, .slice ao xs.length c] 22)).drew (some ⟨w4.heap.size, 0, none⟩) [openL xs.length, sealL (openL xs.length) xs, xs]) := by
      have hk := (Blk.made w4 #[.slice (some ⟨w1.heap.size, 0, none⟩) 6 6, .slice (some ⟨w3.heap.size, 0, none⟩) 4 4, .slice ao xs.length c] 22).drew
      intro i hi
      match i, hi with
      | 0, _ => exact ⟨_, _, _, rfl, hk.cell 0, (RdA_arrN (by rw [← HOC.out]; exact HK4.out) 6 (openL_len _) (by decide)).below HB45.out⟩
      | 1, _ => exact ⟨_, _, _, rfl, hk.cell 1, (RdA_arrN (by rw [← HSC.out]; exact HS4.out) 4 (sealL_len _ _) (by decide)).below HB45.out⟩
      | 2, _ => exact ⟨_, _, _, rfl, hk.cell 2, HV.out.below (Below.step HB4.out HB45.out)⟩
    have HF : Hid (([openL xs.length, sealL (openL xs.length) xs, xs] : List (List UInt8)).flatten = packL xs) := hide (by simp [packL])
    have HFL : Hid (([openL xs.length, sealL (openL xs.length) xs, xs] : List (List UInt8)).flatten.length = 10 + xs.length) := hide (by rw [HF.out, packL_len])
    go_wp2_with fail
    refine (concat_any _ _ 3 [openL xs.length, sealL (openL xs.length) xs, xs] HP.out (by simp) (by rw [HFL.out]; omega) (by rw [HFL.out]; omega)).mono ?_
    rintro e w6 ⟨v6, rfl, hO6, hb6⟩
    rw [HF.out] at hO6
    have HO6 := hide (own_base hO6 (Nat.le_trans HB4.out.size HB45.out.size))
    have HB6 := hide (Below.step (Below.step HB4.out HB45.out) hb6)
    clear hO6 hb6 HP HF HFL HB45
    go_wp2
    go_ret2
    exact ⟨v6, by rw [HE.out]; rfl, by rw [HR.out]; exact HO6.out, HB6.out⟩
  · have hli : ¬ (xs.length : Int) ≤ 65526 := by omega
    have HR : Hid (packR xs = []) := hide (if_neg hl)
    have HE : Hid (packE xs = 60) := hide (if_neg hl)
    go_enter Try.func15, Try.ntmps15
    go_wp2
    go_ret2
    exact ⟨_, by rw [HE.out]; rfl, by rw [HR.out]; exact World.ownsRow_nil _ _ _ _, Below.refl _ _⟩
end Go.Proofs.Ytbnedlcldfpfdaa
