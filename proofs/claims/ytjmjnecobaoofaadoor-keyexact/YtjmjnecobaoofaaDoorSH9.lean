/- Sum. -/
import Derived.Test.YtjmjnecobaoofaaDoorSH8
namespace Go.Proofs.YtjmjnecobaoofaaDoor
set_option linter.unusedVariables false
set_option linter.unusedSimpArgs false
open Go.RowKit

theorem RdA.block {w : World} {v : Value} {xs : List UInt8} (h : RdA w v xs) (hp : 0 < xs.length) (b o l c : Nat) (e : v = .slice (some ⟨b, o, none⟩) l c) : b < w.heap.size := by
  obtain ⟨b', o', c', e', hc⟩ := h.at 0 hp
  rw [e] at e'
  obtain ⟨e1, _, _⟩ := (Value.slice.injEq ..).mp e'
  cases e1
  exact World.block_lt_of_cell? w _ hc
theorem hof_zero {w : World} {z : Nat} {t : TypeId} (h : Blk w z zeroH t) : HOf w z t [] [] [] := by
  refine ⟨zS, ⟨?_, rfl, rfl, st8_one _⟩, fun h => by simp at h⟩
  rw [List.nil_append, List.append_nil]
  exact h
set_option maxRecDepth 40000 in
set_option maxHeartbeats 4000000 in
theorem ssum_any (w : World) (hT : Tabs w) (v : Value) (xs : List UInt8) (hv : RdA w v xs) (hlen : xs.length ≤ 4611686018427387000) : Calls Tryd.prog 20 #[v] w fun e w' => e = .returned (keyV (shaOf xs)) ∧ Below w.heap.size w w' := by
  have hzv := zero_has
  have hz3 := hT.sz
  obtain ⟨kz, hkz⟩ : ∃ kz, kz = keyZ := ⟨_, rfl⟩
  have HV := hide hv
  have HT := hide hT
  obtain ⟨ao, c, rfl, hl63⟩ := hv.slice
  have HWR : Hid (∀ o1 : Obj, Calls Tryd.prog 28 #[.pointer (some ⟨w.heap.size + 1, 0, none⟩), .slice ao xs.length c] ((w.alloc o1).alloc (.cells zeroH 59)) (WriteC ((w.alloc o1).alloc (.cells zeroH 59)) (w.heap.size + 1) 59 [] [] xs)) := by
    intro o1
    have hb : Below w.heap.size w ((w.alloc o1).alloc (.cells zeroH 59)) := ((Below.refl _ _).alloc (Nat.le_refl _) o1).alloc (by simp) _
    exact write_any _ (HT.out.below hb) (w.heap.size + 1) (by omega) 59 [] [] [] xs (hof_zero (blk_made1 w o1 zeroH 59 _)) _ (HV.out.below hb) (fun b o l c' e hp => by have := HV.out.block hp b o l c' e; omega) (by rw [List.length_nil]; omega)
  clear hv hT
  go_enter Tryd.func20, Tryd.ntmps20
  go_wp2_with fail
  refine (HWR.out _).mono ?_
  rintro e w2 ⟨rfl, hO2, hg2⟩
  have hb2 : Below w.heap.size w w2 := below_two hg2
  have HK2 := hide (key_two hg2)
  have HO2 := hide hO2
  have HT2 := hide (HT.out.below hb2)
  clear HWR hO2 hg2 HV HT
  go_wp2_with fail
  refine (hsum_any w2 HT2.out (w.heap.size + 1) 59 [] [] xs HO2.out hlen).mono ?_
  rintro e w3 ⟨rfl, hb3⟩
  obtain ⟨kc, hkc⟩ : ∃ kc, kc = ((shaOf xs).map u8c).toArray := ⟨_, rfl⟩
  unfold keyV
  rw [← hkc]
  have HR5 := hide (Blk.below HK2.out hb3 (Blk.lt HK2.out))
  have HL5 := hide (show kc.size = 32 by rw [hkc]; simp [shaOf_len])
  have HO5 := hide (show kc.all (·.oneCell') = true by rw [hkc]; exact all_oneCell_toArray (u8c_one (shaOf xs)))
  have hb03 := hb2.trans (hb3.mono hb2.size)
  have HKC := hide hkc
  clear HK2 HO2 HT2 hb3 hkc
  go_wp2_with ((with_reducible refine wpList_store_blk ?_ 24 (.tmp 2) (.tmp 6) ?_ w.heap.size 32 _ kc 24 HL5.out ?_ ?_ ?_ HR5.out infoKey HO5.out ?_); rfl; rfl; rfl; rfl; rfl; intro w6 hk6 hg6)
  refine bodyPost_ret (results_cell rfl _ _ _ rfl _ (loadBlkT hk6 24 _ Tryd.underlying24 rfl 32 infoKey HL5.out)) rfl ?_
  exact ⟨by rw [HKC.out]; rfl, hb03.trans (below_grownBy hg6 (Nat.le_refl _) hb03.size)⟩
end Go.Proofs.YtjmjnecobaoofaaDoor
