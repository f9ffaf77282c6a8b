/- A call of a nil Arena or of a zero one: some kinds. -/
import Derived.Test.YtffoadmaihpgoaaAN4
namespace Go.Proofs.Ytffoadmaihpgoaa
set_option linter.unusedVariables false
set_option linter.unusedSimpArgs false
open Go.RowKit

set_option maxRecDepth 20000 in
set_option maxHeartbeats 4000000 in
theorem asked_13 (w : World) (pa : Option Addr) (h : NoneAt w pa) (s o n : Int) (v : Value) (xs : List UInt8) (l : Bool) (hv : RdA w v xs) (hlen : xs.length ≤ 140737488353000) :
    Calls Try.prog 9 #[.pointer pa, .agg (stepL 13 s o n v l)] w (AskC w 13) := by
  obtain ⟨ao, c, rfl, hl63⟩ := hv.slice
  have HV := hide (fun W hb => RdA.below (w' := W) hv hb)
  have HN := hide (fun W hb => NoneAt.below (w' := W) h hb)
  unfold stepL
  clear hv h
  go_enter Try.func9, Try.ntmps9
  go_upto_region 3 with (go_at_call 14; refine (copied_any _ _ xs (HV.out _ (((below_alloc w _).alloc (by simp) _).alloc (by simp; omega) _)) hlen).mono ?_; rintro e w1 ⟨rfl, hB, hb⟩)
  simp only [World.size_alloc] at hB hb
  have HA := hide (AskSt.start w w1 _ xs hB hb)
  clear hB hb

  generalize hz : w.heap.size = z at HA ⊢
  have HZ := hide hz
  clear hz
  have cK : w1.cell? ⟨z, 0, none⟩ = some (.int .i64 13) := (HA.out.step.cell 0).trans rfl
  have cS : w1.cell? ⟨z, 1, none⟩ = some (.int .i64 s) := (HA.out.step.cell 1).trans rfl
  have cO : w1.cell? ⟨z, 2, none⟩ = some (.int .i64 o) := (HA.out.step.cell 2).trans rfl
  have cN : w1.cell? ⟨z, 3, none⟩ = some (.int .i64 n) := (HA.out.step.cell 3).trans rfl
  have cL : w1.cell? ⟨z, 5, none⟩ = some (.bool l) := (HA.out.step.cell 5).trans rfl
  have HNA : Hid (NoneAt w1 pa) := hide (HN.out w1 (by rw [← HZ.out] at HA; exact HA.out.bel))
  go_upto_region 49 with (first | (go_at_call 18; refine (nSegments _ _ (.bool true) 0 0 0 true HNA.out).mono ?_; rintro e w2 ⟨rfl, hb2⟩; have HA2 := hide (HA.out.below hb2); clear hb2; have q0 : w2.cell? ⟨z + 1 + 1, 0, none⟩ = some (.int .i64 0) := (HA2.out.out.cell 0).trans rfl; have q1 : w2.cell? ⟨z + 1 + 1, 1, none⟩ = some (.int .i64 0) := (HA2.out.out.cell 1).trans rfl; have q2 : w2.cell? ⟨z + 1 + 1, 2, none⟩ = some (.int .i64 0) := (HA2.out.out.cell 2).trans rfl; have q3 : w2.cell? ⟨z + 1 + 1, 3, none⟩ = some (.string ⟨#[]⟩) := (HA2.out.out.cell 3).trans rfl; have q4 : w2.cell? ⟨z + 1 + 1, 4, none⟩ = some (.int .i64 0) := (HA2.out.out.cell 4).trans rfl; have q5 : w2.cell? ⟨z + 1 + 1, 5, none⟩ = some (.int .i64 0) := (HA2.out.out.cell 5).trans rfl; have q6 : w2.cell? ⟨z + 1 + 1, 6, none⟩ = some (.string ⟨#[]⟩) := (HA2.out.out.cell 6).trans rfl; have qf := fun i => HA2.out.out.frozen i) | (go_at_call 19; refine (nsegments _).mono ?_; rintro e w' ⟨rfl, rfl⟩))
  refine name_world (fun W => AskSt w z W (stepL 13 s o n (.slice ao xs.length c) l) xs (ansL 0 0 0 [] 0 0 [])) ?_ ?_
  · first | exact HA2.out | exact HA2.out.set 0 (.int .i64 1) | exact ((HA2.out.set 1 (.int .i64 0)).set 2 (.int .i64 0)).set 0 (.int .i64 1) | exact HA2.out.set 6 (.string ⟨#[]⟩) | exact HA2.out.set 3 (.string ⟨#[]⟩) | exact (HA2.out.set 3 (.string ⟨#[]⟩)).set 0 (.int .i64 1) | exact (HA2.out.set 4 (.int .i64 0)).set 5 (.int .i64 0)
  clear q0 q1 q2 q3 q4 q5 q6 qf HA2 HA HNA cK cS cO cN cL
  intro W3 ha3
  have HA3 := hide ha3
  clear ha3
  have hc1 := conv_rdA W3 _ xs (RdA.spare HA3.out.dat hlen)
  have hc2 := conv_rdA W3 _ xs (HV.out W3 HA3.out.bel)
  have cD : W3.cell? ⟨z, 4, none⟩ = some (.slice ao xs.length c) := (HA3.out.step.cell 4).trans rfl
  go_wp2_with (go_at_call 23; refine (clean_any W3 (z + 1 + 1 + 1) xs HA3.out.dat hlen).mono ?_; rintro e w4 ⟨rfl, hb4⟩; have HO := hide ((HA3.out.below hb4).over); clear hb4)
  clear hc1 hc2 cD HA3
  obtain ⟨m, hm⟩ : ∃ m, m = xs.length + 70 := ⟨_, rfl⟩
  rw [← hm] at HO ⊢
  have hlm : xs.length ≤ m := by omega
  clear hm HV HN
  generalize xs.length = n0 at *
  go_loopw [13] (fun t wr => ∃ (j : Nat) (zs : List UInt8), t = .int .i64 j ∧ j ≤ n0 ∧ OvSt w z wr m zs (ansL 0 0 0 [] 0 0 [])) (fun t _ => n0 - (intOf t).toNat)
  case atStart => exact ⟨0, spL xs, rfl, Nat.zero_le _, HO.out⟩
  case round =>
    clear HO
    obtain ⟨j, zs, rfl, hj, ho⟩ := hrel
    have HO := hide ho
    clear ho
    by_cases hlt : j < n0
    · have hlz : j < zs.length := by rw [HO.out.len]; omega
      obtain ⟨x, hx⟩ : ∃ x, x = zs[j] := ⟨_, rfl⟩
      have c1 := HO.out.dat.atU j x (by rw [hx]; exact List.getElem?_eq_getElem hlz)
      have f1 := HO.out.dat.frozen j
      obtain ⟨y, hy⟩ := xor_u8 x
      have HO2 := hide (HO.out.set j y)
      clear hx hlz HO
      go_wp2
      go_roundw
      case rel => exact ⟨j + 1, _, by go_num, by omega, HO2.out⟩
      case measure => simp [intOf]; omega
    · have HOO := hide HO.out.out
      have HOR := hide HO.out.res
      have HOB := hide HO.out.bel
      have HZW := hide HO.out.zw
      have HON := hide (ansL_one 0 0 0 [] 0 0 [])
      generalize hAN : ansL 0 0 0 [] 0 0 [] = AN at HOO HON
      have HAS : Hid (AN.size = 7) := hide (by rw [← hAN]; rfl)
      have HAN := hide hAN
      clear hAN HO
      go_wp2_with (first | ((with_reducible refine wpList_load_blk ?_ 39 _ Try.underlying39 ?_ 7 infoAns (.tmp 6) ?_ (z + 1 + 1) ?_ AN _ HOO.out HAS.out ?_); rfl; rfl; rfl; rfl) | ((with_reducible refine wpList_store_blk ?_ 39 (.tmp 4) (.tmp 206) ?_ (z + 1) 7 _ AN 39 HAS.out ?_ ?_ ?_ HOR.out infoAns HON.out ?_); rfl; rfl; rfl; rfl; rfl; intro w5 hk5 hg5))
      refine bodyPost_ret (results_cell2 rfl _ _ _ rfl _ (loadBlkT hk5 39 _ Try.underlying39 rfl 7 infoAns HAS.out)) rfl ⟨?_, ?_⟩
      · rw [← HAN.out]; first | rfl | (rw [HK.out]; rfl)
      · exact HOB.out.trans (below_grownBy hg5 (by have := HZW.out; omega) HOB.out.size)
set_option maxRecDepth 20000 in
set_option maxHeartbeats 4000000 in
theorem asked_14 (w : World) (pa : Option Addr) (h : NoneAt w pa) (s o n : Int) (v : Value) (xs : List UInt8) (l : Bool) (hv : RdA w v xs) (hlen : xs.length ≤ 140737488353000) :
    Calls Try.prog 9 #[.pointer pa, .agg (stepL 14 s o n v l)] w (AskC w 14) := by
  obtain ⟨ao, c, rfl, hl63⟩ := hv.slice
  have HV := hide (fun W hb => RdA.below (w' := W) hv hb)
  have HN := hide (fun W hb => NoneAt.below (w' := W) h hb)
  unfold stepL
  clear hv h
  go_enter Try.func9, Try.ntmps9
  go_upto_region 3 with (go_at_call 14; refine (copied_any _ _ xs (HV.out _ (((below_alloc w _).alloc (by simp) _).alloc (by simp; omega) _)) hlen).mono ?_; rintro e w1 ⟨rfl, hB, hb⟩)
  simp only [World.size_alloc] at hB hb
  have HA := hide (AskSt.start w w1 _ xs hB hb)
  clear hB hb

  generalize hz : w.heap.size = z at HA ⊢
  have HZ := hide hz
  clear hz
  have cK : w1.cell? ⟨z, 0, none⟩ = some (.int .i64 14) := (HA.out.step.cell 0).trans rfl
  have cS : w1.cell? ⟨z, 1, none⟩ = some (.int .i64 s) := (HA.out.step.cell 1).trans rfl
  have cO : w1.cell? ⟨z, 2, none⟩ = some (.int .i64 o) := (HA.out.step.cell 2).trans rfl
  have cN : w1.cell? ⟨z, 3, none⟩ = some (.int .i64 n) := (HA.out.step.cell 3).trans rfl
  have cL : w1.cell? ⟨z, 5, none⟩ = some (.bool l) := (HA.out.step.cell 5).trans rfl
  have HNA : Hid (NoneAt w1 pa) := hide (HN.out w1 (by rw [← HZ.out] at HA; exact HA.out.bel))
  have hcn : ∀ W : World, (convert 42 9 (.slice none 0 0)).run Try.prog W = .ok (.string ⟨#[]⟩) W := fun W => conv_rdA W _ [] (.inl (Rd_none W))
  go_wp2_with (go_at_call 33; refine (nBytes _ _ (.bool true) 0 0 _ true HNA.out).mono ?_; rintro e w2 ⟨rfl, hb2⟩; have HA2 := hide (HA.out.below hb2); clear hb2; have q0 : w2.cell? ⟨z + 1 + 1, 0, none⟩ = some (.int .i64 0) := (HA2.out.out.cell 0).trans rfl; have q1 : w2.cell? ⟨z + 1 + 1, 1, none⟩ = some (.int .i64 0) := (HA2.out.out.cell 1).trans rfl; have q2 : w2.cell? ⟨z + 1 + 1, 2, none⟩ = some (.int .i64 0) := (HA2.out.out.cell 2).trans rfl; have q3 : w2.cell? ⟨z + 1 + 1, 3, none⟩ = some (.string ⟨#[]⟩) := (HA2.out.out.cell 3).trans rfl; have q4 : w2.cell? ⟨z + 1 + 1, 4, none⟩ = some (.int .i64 0) := (HA2.out.out.cell 4).trans rfl; have q5 : w2.cell? ⟨z + 1 + 1, 5, none⟩ = some (.int .i64 0) := (HA2.out.out.cell 5).trans rfl; have q6 : w2.cell? ⟨z + 1 + 1, 6, none⟩ = some (.string ⟨#[]⟩) := (HA2.out.out.cell 6).trans rfl; have qf := fun i => HA2.out.out.frozen i)
  go_loopw [12] (fun t wr => t = .int .i64 0 ∧ AskSt w z wr (stepL 14 s o n (.slice ao xs.length c) l) xs (ansL 0 0 0 [] 0 0 [])) (fun _ _ => 0)
  case atStart => exact ⟨rfl, by first | exact (HA2.out.set 3 (.string ⟨#[]⟩)).set 0 (.int .i64 1) | exact HA2.out.set 3 (.string ⟨#[]⟩)⟩
  case round =>
    obtain ⟨rfl, ha⟩ := hrel
    have HA5 := hide ha
    clear ha HA2
    have HA2 := HA5
    go_upto_region 49 with fail
    refine name_world (fun W => AskSt w z W (stepL 14 s o n (.slice ao xs.length c) l) xs (ansL 0 0 0 [] 0 0 [])) ?_ ?_
    · first | exact HA2.out | exact HA2.out.set 0 (.int .i64 1) | exact ((HA2.out.set 1 (.int .i64 0)).set 2 (.int .i64 0)).set 0 (.int .i64 1) | exact HA2.out.set 6 (.string ⟨#[]⟩) | exact HA2.out.set 3 (.string ⟨#[]⟩) | exact (HA2.out.set 3 (.string ⟨#[]⟩)).set 0 (.int .i64 1) | exact (HA2.out.set 4 (.int .i64 0)).set 5 (.int .i64 0)
    clear q0 q1 q2 q3 q4 q5 q6 qf HA2 HA5 HA HNA cK cS cO cN cL
    intro W3 ha3
    have HA3 := hide ha3
    clear ha3
    have hc1 := conv_rdA W3 _ xs (RdA.spare HA3.out.dat hlen)
    have hc2 := conv_rdA W3 _ xs (HV.out W3 HA3.out.bel)
    have cD : W3.cell? ⟨z, 4, none⟩ = some (.slice ao xs.length c) := (HA3.out.step.cell 4).trans rfl
    go_wp2_with (go_at_call 23; refine (clean_any W3 (z + 1 + 1 + 1) xs HA3.out.dat hlen).mono ?_; rintro e w4 ⟨rfl, hb4⟩; have HO := hide ((HA3.out.below hb4).over); clear hb4)
    clear hc1 hc2 cD HA3
    obtain ⟨m, hm⟩ : ∃ m, m = xs.length + 70 := ⟨_, rfl⟩
    rw [← hm] at HO ⊢
    have hlm : xs.length ≤ m := by omega
    clear hm HV HN
    generalize xs.length = n0 at *
    go_loopw [13] (fun t wr => ∃ (j : Nat) (zs : List UInt8), t = .int .i64 j ∧ j ≤ n0 ∧ OvSt w z wr m zs (ansL 0 0 0 [] 0 0 [])) (fun t _ => n0 - (intOf t).toNat)
    case atStart => exact ⟨0, spL xs, rfl, Nat.zero_le _, HO.out⟩
    case round =>
      clear HO
      obtain ⟨j, zs, rfl, hj, ho⟩ := hrel
      have HO := hide ho
      clear ho
      by_cases hlt : j < n0
      · have hlz : j < zs.length := by rw [HO.out.len]; omega
        obtain ⟨x, hx⟩ : ∃ x, x = zs[j] := ⟨_, rfl⟩
        have c1 := HO.out.dat.atU j x (by rw [hx]; exact List.getElem?_eq_getElem hlz)
        have f1 := HO.out.dat.frozen j
        obtain ⟨y, hy⟩ := xor_u8 x
        have HO2 := hide (HO.out.set j y)
        clear hx hlz HO
        go_wp2
        go_roundw
        case rel => exact ⟨j + 1, _, by go_num, by omega, HO2.out⟩
        case measure => simp [intOf]; omega
      · have HOO := hide HO.out.out
        have HOR := hide HO.out.res
        have HOB := hide HO.out.bel
        have HZW := hide HO.out.zw
        have HON := hide (ansL_one 0 0 0 [] 0 0 [])
        generalize hAN : ansL 0 0 0 [] 0 0 [] = AN at HOO HON
        have HAS : Hid (AN.size = 7) := hide (by rw [← hAN]; rfl)
        have HAN := hide hAN
        clear hAN HO
        go_wp2_with (first | ((with_reducible refine wpList_load_blk ?_ 39 _ Try.underlying39 ?_ 7 infoAns (.tmp 6) ?_ (z + 1 + 1) ?_ AN _ HOO.out HAS.out ?_); rfl; rfl; rfl; rfl) | ((with_reducible refine wpList_store_blk ?_ 39 (.tmp 4) (.tmp 206) ?_ (z + 1) 7 _ AN 39 HAS.out ?_ ?_ ?_ HOR.out infoAns HON.out ?_); rfl; rfl; rfl; rfl; rfl; intro w5 hk5 hg5))
        refine bodyPost_ret (results_cell2 rfl _ _ _ rfl _ (loadBlkT hk5 39 _ Try.underlying39 rfl 7 infoAns HAS.out)) rfl ⟨?_, ?_⟩
        · rw [← HAN.out]; first | rfl | (rw [HK.out]; rfl)
        · exact HOB.out.trans (below_grownBy hg5 (by have := HZW.out; omega) HOB.out.size)
set_option maxRecDepth 20000 in
set_option maxHeartbeats 4000000 in
theorem asked_15 (w : World) (pa : Option Addr) (h : NoneAt w pa) (s o n : Int) (v : Value) (xs : List UInt8) (l : Bool) (hv : RdA w v xs) (hlen : xs.length ≤ 140737488353000) :
    Calls Try.prog 9 #[.pointer pa, .agg (stepL 15 s o n v l)] w (AskC w 15) := by
  obtain ⟨ao, c, rfl, hl63⟩ := hv.slice
  have HV := hide (fun W hb => RdA.below (w' := W) hv hb)
  have HN := hide (fun W hb => NoneAt.below (w' := W) h hb)
  unfold stepL
  clear hv h
  go_enter Try.func9, Try.ntmps9
  go_upto_region 3 with (go_at_call 14; refine (copied_any _ _ xs (HV.out _ (((below_alloc w _).alloc (by simp) _).alloc (by simp; omega) _)) hlen).mono ?_; rintro e w1 ⟨rfl, hB, hb⟩)
  simp only [World.size_alloc] at hB hb
  have HA := hide (AskSt.start w w1 _ xs hB hb)
  clear hB hb

  generalize hz : w.heap.size = z at HA ⊢
  have HZ := hide hz
  clear hz
  have cK : w1.cell? ⟨z, 0, none⟩ = some (.int .i64 15) := (HA.out.step.cell 0).trans rfl
  have cS : w1.cell? ⟨z, 1, none⟩ = some (.int .i64 s) := (HA.out.step.cell 1).trans rfl
  have cO : w1.cell? ⟨z, 2, none⟩ = some (.int .i64 o) := (HA.out.step.cell 2).trans rfl
  have cN : w1.cell? ⟨z, 3, none⟩ = some (.int .i64 n) := (HA.out.step.cell 3).trans rfl
  have cL : w1.cell? ⟨z, 5, none⟩ = some (.bool l) := (HA.out.step.cell 5).trans rfl
  have HNA : Hid (NoneAt w1 pa) := hide (HN.out w1 (by rw [← HZ.out] at HA; exact HA.out.bel))
  go_upto_region 49 with (first | (go_at_call 35; refine (nLive _ _ HNA.out).mono ?_; rintro e w2 ⟨rfl, hb2⟩; have HA2 := hide (HA.out.below hb2); clear hb2; have q0 : w2.cell? ⟨z + 1 + 1, 0, none⟩ = some (.int .i64 0) := (HA2.out.out.cell 0).trans rfl; have q1 : w2.cell? ⟨z + 1 + 1, 1, none⟩ = some (.int .i64 0) := (HA2.out.out.cell 1).trans rfl; have q2 : w2.cell? ⟨z + 1 + 1, 2, none⟩ = some (.int .i64 0) := (HA2.out.out.cell 2).trans rfl; have q3 : w2.cell? ⟨z + 1 + 1, 3, none⟩ = some (.string ⟨#[]⟩) := (HA2.out.out.cell 3).trans rfl; have q4 : w2.cell? ⟨z + 1 + 1, 4, none⟩ = some (.int .i64 0) := (HA2.out.out.cell 4).trans rfl; have q5 : w2.cell? ⟨z + 1 + 1, 5, none⟩ = some (.int .i64 0) := (HA2.out.out.cell 5).trans rfl; have q6 : w2.cell? ⟨z + 1 + 1, 6, none⟩ = some (.string ⟨#[]⟩) := (HA2.out.out.cell 6).trans rfl; have qf := fun i => HA2.out.out.frozen i) | (go_at_call 34; refine (nrooms _).mono ?_; rintro e w' ⟨rfl, rfl⟩))
  refine name_world (fun W => AskSt w z W (stepL 15 s o n (.slice ao xs.length c) l) xs (ansL 0 0 0 [] 0 0 [])) ?_ ?_
  · first | exact HA2.out | exact HA2.out.set 0 (.int .i64 1) | exact ((HA2.out.set 1 (.int .i64 0)).set 2 (.int .i64 0)).set 0 (.int .i64 1) | exact HA2.out.set 6 (.string ⟨#[]⟩) | exact HA2.out.set 3 (.string ⟨#[]⟩) | exact (HA2.out.set 3 (.string ⟨#[]⟩)).set 0 (.int .i64 1) | exact (HA2.out.set 4 (.int .i64 0)).set 5 (.int .i64 0)
  clear q0 q1 q2 q3 q4 q5 q6 qf HA2 HA HNA cK cS cO cN cL
  intro W3 ha3
  have HA3 := hide ha3
  clear ha3
  have hc1 := conv_rdA W3 _ xs (RdA.spare HA3.out.dat hlen)
  have hc2 := conv_rdA W3 _ xs (HV.out W3 HA3.out.bel)
  have cD : W3.cell? ⟨z, 4, none⟩ = some (.slice ao xs.length c) := (HA3.out.step.cell 4).trans rfl
  go_wp2_with (go_at_call 23; refine (clean_any W3 (z + 1 + 1 + 1) xs HA3.out.dat hlen).mono ?_; rintro e w4 ⟨rfl, hb4⟩; have HO := hide ((HA3.out.below hb4).over); clear hb4)
  clear hc1 hc2 cD HA3
  obtain ⟨m, hm⟩ : ∃ m, m = xs.length + 70 := ⟨_, rfl⟩
  rw [← hm] at HO ⊢
  have hlm : xs.length ≤ m := by omega
  clear hm HV HN
  generalize xs.length = n0 at *
  go_loopw [13] (fun t wr => ∃ (j : Nat) (zs : List UInt8), t = .int .i64 j ∧ j ≤ n0 ∧ OvSt w z wr m zs (ansL 0 0 0 [] 0 0 [])) (fun t _ => n0 - (intOf t).toNat)
  case atStart => exact ⟨0, spL xs, rfl, Nat.zero_le _, HO.out⟩
  case round =>
    clear HO
    obtain ⟨j, zs, rfl, hj, ho⟩ := hrel
    have HO := hide ho
    clear ho
    by_cases hlt : j < n0
    · have hlz : j < zs.length := by rw [HO.out.len]; omega
      obtain ⟨x, hx⟩ : ∃ x, x = zs[j] := ⟨_, rfl⟩
      have c1 := HO.out.dat.atU j x (by rw [hx]; exact List.getElem?_eq_getElem hlz)
      have f1 := HO.out.dat.frozen j
      obtain ⟨y, hy⟩ := xor_u8 x
      have HO2 := hide (HO.out.set j y)
      clear hx hlz HO
      go_wp2
      go_roundw
      case rel => exact ⟨j + 1, _, by go_num, by omega, HO2.out⟩
      case measure => simp [intOf]; omega
    · have HOO := hide HO.out.out
      have HOR := hide HO.out.res
      have HOB := hide HO.out.bel
      have HZW := hide HO.out.zw
      have HON := hide (ansL_one 0 0 0 [] 0 0 [])
      generalize hAN : ansL 0 0 0 [] 0 0 [] = AN at HOO HON
      have HAS : Hid (AN.size = 7) := hide (by rw [← hAN]; rfl)
      have HAN := hide hAN
      clear hAN HO
      go_wp2_with (first | ((with_reducible refine wpList_load_blk ?_ 39 _ Try.underlying39 ?_ 7 infoAns (.tmp 6) ?_ (z + 1 + 1) ?_ AN _ HOO.out HAS.out ?_); rfl; rfl; rfl; rfl) | ((with_reducible refine wpList_store_blk ?_ 39 (.tmp 4) (.tmp 206) ?_ (z + 1) 7 _ AN 39 HAS.out ?_ ?_ ?_ HOR.out infoAns HON.out ?_); rfl; rfl; rfl; rfl; rfl; intro w5 hk5 hg5))
      refine bodyPost_ret (results_cell2 rfl _ _ _ rfl _ (loadBlkT hk5 39 _ Try.underlying39 rfl 7 infoAns HAS.out)) rfl ⟨?_, ?_⟩
      · rw [← HAN.out]; first | rfl | (rw [HK.out]; rfl)
      · exact HOB.out.trans (below_grownBy hg5 (by have := HZW.out; omega) HOB.out.size)
set_option maxRecDepth 20000 in
set_option maxHeartbeats 4000000 in
theorem asked_16 (w : World) (pa : Option Addr) (h : NoneAt w pa) (s o n : Int) (v : Value) (xs : List UInt8) (l : Bool) (hv : RdA w v xs) (hlen : xs.length ≤ 140737488353000) :
    Calls Try.prog 9 #[.pointer pa, .agg (stepL 16 s o n v l)] w (AskC w 16) := by
  obtain ⟨ao, c, rfl, hl63⟩ := hv.slice
  have HV := hide (fun W hb => RdA.below (w' := W) hv hb)
  have HN := hide (fun W hb => NoneAt.below (w' := W) h hb)
  unfold stepL
  clear hv h
  go_enter Try.func9, Try.ntmps9
  go_upto_region 3 with (go_at_call 14; refine (copied_any _ _ xs (HV.out _ (((below_alloc w _).alloc (by simp) _).alloc (by simp; omega) _)) hlen).mono ?_; rintro e w1 ⟨rfl, hB, hb⟩)
  simp only [World.size_alloc] at hB hb
  have HA := hide (AskSt.start w w1 _ xs hB hb)
  clear hB hb

  generalize hz : w.heap.size = z at HA ⊢
  have HZ := hide hz
  clear hz
  have cK : w1.cell? ⟨z, 0, none⟩ = some (.int .i64 16) := (HA.out.step.cell 0).trans rfl
  have cS : w1.cell? ⟨z, 1, none⟩ = some (.int .i64 s) := (HA.out.step.cell 1).trans rfl
  have cO : w1.cell? ⟨z, 2, none⟩ = some (.int .i64 o) := (HA.out.step.cell 2).trans rfl
  have cN : w1.cell? ⟨z, 3, none⟩ = some (.int .i64 n) := (HA.out.step.cell 3).trans rfl
  have cL : w1.cell? ⟨z, 5, none⟩ = some (.bool l) := (HA.out.step.cell 5).trans rfl
  have HNA : Hid (NoneAt w1 pa) := hide (HN.out w1 (by rw [← HZ.out] at HA; exact HA.out.bel))
  go_upto_region 49 with (first | (go_at_call 36; refine (nPending _ _ HNA.out).mono ?_; rintro e w2 ⟨rfl, hb2⟩; have HA2 := hide (HA.out.below hb2); clear hb2; have q0 : w2.cell? ⟨z + 1 + 1, 0, none⟩ = some (.int .i64 0) := (HA2.out.out.cell 0).trans rfl; have q1 : w2.cell? ⟨z + 1 + 1, 1, none⟩ = some (.int .i64 0) := (HA2.out.out.cell 1).trans rfl; have q2 : w2.cell? ⟨z + 1 + 1, 2, none⟩ = some (.int .i64 0) := (HA2.out.out.cell 2).trans rfl; have q3 : w2.cell? ⟨z + 1 + 1, 3, none⟩ = some (.string ⟨#[]⟩) := (HA2.out.out.cell 3).trans rfl; have q4 : w2.cell? ⟨z + 1 + 1, 4, none⟩ = some (.int .i64 0) := (HA2.out.out.cell 4).trans rfl; have q5 : w2.cell? ⟨z + 1 + 1, 5, none⟩ = some (.int .i64 0) := (HA2.out.out.cell 5).trans rfl; have q6 : w2.cell? ⟨z + 1 + 1, 6, none⟩ = some (.string ⟨#[]⟩) := (HA2.out.out.cell 6).trans rfl; have qf := fun i => HA2.out.out.frozen i) | (go_at_call 34; refine (nrooms _).mono ?_; rintro e w' ⟨rfl, rfl⟩))
  refine name_world (fun W => AskSt w z W (stepL 16 s o n (.slice ao xs.length c) l) xs (ansL 0 0 0 [] 0 0 [])) ?_ ?_
  · first | exact HA2.out | exact HA2.out.set 0 (.int .i64 1) | exact ((HA2.out.set 1 (.int .i64 0)).set 2 (.int .i64 0)).set 0 (.int .i64 1) | exact HA2.out.set 6 (.string ⟨#[]⟩) | exact HA2.out.set 3 (.string ⟨#[]⟩) | exact (HA2.out.set 3 (.string ⟨#[]⟩)).set 0 (.int .i64 1) | exact (HA2.out.set 4 (.int .i64 0)).set 5 (.int .i64 0)
  clear q0 q1 q2 q3 q4 q5 q6 qf HA2 HA HNA cK cS cO cN cL
  intro W3 ha3
  have HA3 := hide ha3
  clear ha3
  have hc1 := conv_rdA W3 _ xs (RdA.spare HA3.out.dat hlen)
  have hc2 := conv_rdA W3 _ xs (HV.out W3 HA3.out.bel)
  have cD : W3.cell? ⟨z, 4, none⟩ = some (.slice ao xs.length c) := (HA3.out.step.cell 4).trans rfl
  go_wp2_with (go_at_call 23; refine (clean_any W3 (z + 1 + 1 + 1) xs HA3.out.dat hlen).mono ?_; rintro e w4 ⟨rfl, hb4⟩; have HO := hide ((HA3.out.below hb4).over); clear hb4)
  clear hc1 hc2 cD HA3
  obtain ⟨m, hm⟩ : ∃ m, m = xs.length + 70 := ⟨_, rfl⟩
  rw [← hm] at HO ⊢
  have hlm : xs.length ≤ m := by omega
  clear hm HV HN
  generalize xs.length = n0 at *
  go_loopw [13] (fun t wr => ∃ (j : Nat) (zs : List UInt8), t = .int .i64 j ∧ j ≤ n0 ∧ OvSt w z wr m zs (ansL 0 0 0 [] 0 0 [])) (fun t _ => n0 - (intOf t).toNat)
  case atStart => exact ⟨0, spL xs, rfl, Nat.zero_le _, HO.out⟩
  case round =>
    clear HO
    obtain ⟨j, zs, rfl, hj, ho⟩ := hrel
    have HO := hide ho
    clear ho
    by_cases hlt : j < n0
    · have hlz : j < zs.length := by rw [HO.out.len]; omega
      obtain ⟨x, hx⟩ : ∃ x, x = zs[j] := ⟨_, rfl⟩
      have c1 := HO.out.dat.atU j x (by rw [hx]; exact List.getElem?_eq_getElem hlz)
      have f1 := HO.out.dat.frozen j
      obtain ⟨y, hy⟩ := xor_u8 x
      have HO2 := hide (HO.out.set j y)
      clear hx hlz HO
      go_wp2
      go_roundw
      case rel => exact ⟨j + 1, _, by go_num, by omega, HO2.out⟩
      case measure => simp [intOf]; omega
    · have HOO := hide HO.out.out
      have HOR := hide HO.out.res
      have HOB := hide HO.out.bel
      have HZW := hide HO.out.zw
      have HON := hide (ansL_one 0 0 0 [] 0 0 [])
      generalize hAN : ansL 0 0 0 [] 0 0 [] = AN at HOO HON
      have HAS : Hid (AN.size = 7) := hide (by rw [← hAN]; rfl)
      have HAN := hide hAN
      clear hAN HO
      go_wp2_with (first | ((with_reducible refine wpList_load_blk ?_ 39 _ Try.underlying39 ?_ 7 infoAns (.tmp 6) ?_ (z + 1 + 1) ?_ AN _ HOO.out HAS.out ?_); rfl; rfl; rfl; rfl) | ((with_reducible refine wpList_store_blk ?_ 39 (.tmp 4) (.tmp 206) ?_ (z + 1) 7 _ AN 39 HAS.out ?_ ?_ ?_ HOR.out infoAns HON.out ?_); rfl; rfl; rfl; rfl; rfl; intro w5 hk5 hg5))
      refine bodyPost_ret (results_cell2 rfl _ _ _ rfl _ (loadBlkT hk5 39 _ Try.underlying39 rfl 7 infoAns HAS.out)) rfl ⟨?_, ?_⟩
      · rw [← HAN.out]; first | rfl | (rw [HK.out]; rfl)
      · exact HOB.out.trans (below_grownBy hg5 (by have := HZW.out; omega) HOB.out.size)
set_option maxRecDepth 20000 in
set_option maxHeartbeats 4000000 in
theorem asked_17 (w : World) (pa : Option Addr) (h : NoneAt w pa) (s o n : Int) (v : Value) (xs : List UInt8) (l : Bool) (hv : RdA w v xs) (hlen : xs.length ≤ 140737488353000) :
    Calls Try.prog 9 #[.pointer pa, .agg (stepL 17 s o n v l)] w (AskC w 17) := by
  obtain ⟨ao, c, rfl, hl63⟩ := hv.slice
  have HV := hide (fun W hb => RdA.below (w' := W) hv hb)
  have HN := hide (fun W hb => NoneAt.below (w' := W) h hb)
  unfold stepL
  clear hv h
  go_enter Try.func9, Try.ntmps9
  go_upto_region 3 with (go_at_call 14; refine (copied_any _ _ xs (HV.out _ (((below_alloc w _).alloc (by simp) _).alloc (by simp; omega) _)) hlen).mono ?_; rintro e w1 ⟨rfl, hB, hb⟩)
  simp only [World.size_alloc] at hB hb
  have HA := hide (AskSt.start w w1 _ xs hB hb)
  clear hB hb

  generalize hz : w.heap.size = z at HA ⊢
  have HZ := hide hz
  clear hz
  have cK : w1.cell? ⟨z, 0, none⟩ = some (.int .i64 17) := (HA.out.step.cell 0).trans rfl
  have cS : w1.cell? ⟨z, 1, none⟩ = some (.int .i64 s) := (HA.out.step.cell 1).trans rfl
  have cO : w1.cell? ⟨z, 2, none⟩ = some (.int .i64 o) := (HA.out.step.cell 2).trans rfl
  have cN : w1.cell? ⟨z, 3, none⟩ = some (.int .i64 n) := (HA.out.step.cell 3).trans rfl
  have cL : w1.cell? ⟨z, 5, none⟩ = some (.bool l) := (HA.out.step.cell 5).trans rfl
  have HNA : Hid (NoneAt w1 pa) := hide (HN.out w1 (by rw [← HZ.out] at HA; exact HA.out.bel))
  go_upto_region 49 with (go_at_call 17; refine (nConfig _ _ HNA.out).mono ?_; rintro e w2 ⟨rfl, hb2⟩; have HA2 := hide (HA.out.below hb2); clear hb2; have q0 : w2.cell? ⟨z + 1 + 1, 0, none⟩ = some (.int .i64 0) := (HA2.out.out.cell 0).trans rfl; have q1 : w2.cell? ⟨z + 1 + 1, 1, none⟩ = some (.int .i64 0) := (HA2.out.out.cell 1).trans rfl; have q2 : w2.cell? ⟨z + 1 + 1, 2, none⟩ = some (.int .i64 0) := (HA2.out.out.cell 2).trans rfl; have q3 : w2.cell? ⟨z + 1 + 1, 3, none⟩ = some (.string ⟨#[]⟩) := (HA2.out.out.cell 3).trans rfl; have q4 : w2.cell? ⟨z + 1 + 1, 4, none⟩ = some (.int .i64 0) := (HA2.out.out.cell 4).trans rfl; have q5 : w2.cell? ⟨z + 1 + 1, 5, none⟩ = some (.int .i64 0) := (HA2.out.out.cell 5).trans rfl; have q6 : w2.cell? ⟨z + 1 + 1, 6, none⟩ = some (.string ⟨#[]⟩) := (HA2.out.out.cell 6).trans rfl; have qf := fun i => HA2.out.out.frozen i)
  refine name_world (fun W => AskSt w z W (stepL 17 s o n (.slice ao xs.length c) l) xs (ansL 0 0 0 [] 0 0 [])) ?_ ?_
  · first | exact HA2.out | exact HA2.out.set 0 (.int .i64 1) | exact ((HA2.out.set 1 (.int .i64 0)).set 2 (.int .i64 0)).set 0 (.int .i64 1) | exact HA2.out.set 6 (.string ⟨#[]⟩) | exact HA2.out.set 3 (.string ⟨#[]⟩) | exact (HA2.out.set 3 (.string ⟨#[]⟩)).set 0 (.int .i64 1) | exact (HA2.out.set 4 (.int .i64 0)).set 5 (.int .i64 0)
  clear q0 q1 q2 q3 q4 q5 q6 qf HA2 HA HNA cK cS cO cN cL
  intro W3 ha3
  have HA3 := hide ha3
  clear ha3
  have hc1 := conv_rdA W3 _ xs (RdA.spare HA3.out.dat hlen)
  have hc2 := conv_rdA W3 _ xs (HV.out W3 HA3.out.bel)
  have cD : W3.cell? ⟨z, 4, none⟩ = some (.slice ao xs.length c) := (HA3.out.step.cell 4).trans rfl
  go_wp2_with (go_at_call 23; refine (clean_any W3 (z + 1 + 1 + 1) xs HA3.out.dat hlen).mono ?_; rintro e w4 ⟨rfl, hb4⟩; have HO := hide ((HA3.out.below hb4).over); clear hb4)
  clear hc1 hc2 cD HA3
  obtain ⟨m, hm⟩ : ∃ m, m = xs.length + 70 := ⟨_, rfl⟩
  rw [← hm] at HO ⊢
  have hlm : xs.length ≤ m := by omega
  clear hm HV HN
  generalize xs.length = n0 at *
  go_loopw [13] (fun t wr => ∃ (j : Nat) (zs : List UInt8), t = .int .i64 j ∧ j ≤ n0 ∧ OvSt w z wr m zs (ansL 0 0 0 [] 0 0 [])) (fun t _ => n0 - (intOf t).toNat)
  case atStart => exact ⟨0, spL xs, rfl, Nat.zero_le _, HO.out⟩
  case round =>
    clear HO
    obtain ⟨j, zs, rfl, hj, ho⟩ := hrel
    have HO := hide ho
    clear ho
    by_cases hlt : j < n0
    · have hlz : j < zs.length := by rw [HO.out.len]; omega
      obtain ⟨x, hx⟩ : ∃ x, x = zs[j] := ⟨_, rfl⟩
      have c1 := HO.out.dat.atU j x (by rw [hx]; exact List.getElem?_eq_getElem hlz)
      have f1 := HO.out.dat.frozen j
      obtain ⟨y, hy⟩ := xor_u8 x
      have HO2 := hide (HO.out.set j y)
      clear hx hlz HO
      go_wp2
      go_roundw
      case rel => exact ⟨j + 1, _, by go_num, by omega, HO2.out⟩
      case measure => simp [intOf]; omega
    · have HOO := hide HO.out.out
      have HOR := hide HO.out.res
      have HOB := hide HO.out.bel
      have HZW := hide HO.out.zw
      have HON := hide (ansL_one 0 0 0 [] 0 0 [])
      generalize hAN : ansL 0 0 0 [] 0 0 [] = AN at HOO HON
      have HAS : Hid (AN.size = 7) := hide (by rw [← hAN]; rfl)
      have HAN := hide hAN
      clear hAN HO
      go_wp2_with (first | ((with_reducible refine wpList_load_blk ?_ 39 _ Try.underlying39 ?_ 7 infoAns (.tmp 6) ?_ (z + 1 + 1) ?_ AN _ HOO.out HAS.out ?_); rfl; rfl; rfl; rfl) | ((with_reducible refine wpList_store_blk ?_ 39 (.tmp 4) (.tmp 206) ?_ (z + 1) 7 _ AN 39 HAS.out ?_ ?_ ?_ HOR.out infoAns HON.out ?_); rfl; rfl; rfl; rfl; rfl; intro w5 hk5 hg5))
      refine bodyPost_ret (results_cell2 rfl _ _ _ rfl _ (loadBlkT hk5 39 _ Try.underlying39 rfl 7 infoAns HAS.out)) rfl ⟨?_, ?_⟩
      · rw [← HAN.out]; first | rfl | (rw [HK.out]; rfl)
      · exact HOB.out.trans (below_grownBy hg5 (by have := HZW.out; omega) HOB.out.size)
set_option maxRecDepth 20000 in
set_option maxHeartbeats 4000000 in
theorem asked_other (w : World) (pa : Option Addr) (h : NoneAt w pa) (k : Int) (s o n : Int) (v : Value) (xs : List UInt8) (l : Bool) (hv : RdA w v xs) (hlen : xs.length ≤ 140737488353000) (hk : k < 1 ∨ 17 < k) :
    Calls Try.prog 9 #[.pointer pa, .agg (stepL k s o n v l)] w (AskC w k) := by
  obtain ⟨ao, c, rfl, hl63⟩ := hv.slice
  have HV := hide (fun W hb => RdA.below (w' := W) hv hb)
  have HN := hide (fun W hb => NoneAt.below (w' := W) h hb)
  unfold stepL
  clear hv h
  have n1 : (k == 1) = false := beq_eq_false_iff_ne.2 (by omega)
  have n2 : (k == 2) = false := beq_eq_false_iff_ne.2 (by omega)
  have n3 : (k == 3) = false := beq_eq_false_iff_ne.2 (by omega)
  have n4 : (k == 4) = false := beq_eq_false_iff_ne.2 (by omega)
  have n5 : (k == 5) = false := beq_eq_false_iff_ne.2 (by omega)
  have n6 : (k == 6) = false := beq_eq_false_iff_ne.2 (by omega)
  have n7 : (k == 7) = false := beq_eq_false_iff_ne.2 (by omega)
  have n8 : (k == 8) = false := beq_eq_false_iff_ne.2 (by omega)
  have n9 : (k == 9) = false := beq_eq_false_iff_ne.2 (by omega)
  have n10 : (k == 10) = false := beq_eq_false_iff_ne.2 (by omega)
  have n11 : (k == 11) = false := beq_eq_false_iff_ne.2 (by omega)
  have n12 : (k == 12) = false := beq_eq_false_iff_ne.2 (by omega)
  have n13 : (k == 13) = false := beq_eq_false_iff_ne.2 (by omega)
  have n14 : (k == 14) = false := beq_eq_false_iff_ne.2 (by omega)
  have n15 : (k == 15) = false := beq_eq_false_iff_ne.2 (by omega)
  have n16 : (k == 16) = false := beq_eq_false_iff_ne.2 (by omega)
  have n17 : (k == 17) = false := beq_eq_false_iff_ne.2 (by omega)
  have HK : Hid (errK k = 0) := hide (if_neg (by omega))
  clear hk
  go_enter Try.func9, Try.ntmps9
  go_upto_region 3 with (go_at_call 14; refine (copied_any _ _ xs (HV.out _ (((below_alloc w _).alloc (by simp) _).alloc (by simp; omega) _)) hlen).mono ?_; rintro e w1 ⟨rfl, hB, hb⟩)
  simp only [World.size_alloc] at hB hb
  have HA := hide (AskSt.start w w1 _ xs hB hb)
  clear hB hb

  generalize hz : w.heap.size = z at HA ⊢
  have HZ := hide hz
  clear hz
  have cK : w1.cell? ⟨z, 0, none⟩ = some (.int .i64 k) := (HA.out.step.cell 0).trans rfl
  have cS : w1.cell? ⟨z, 1, none⟩ = some (.int .i64 s) := (HA.out.step.cell 1).trans rfl
  have cO : w1.cell? ⟨z, 2, none⟩ = some (.int .i64 o) := (HA.out.step.cell 2).trans rfl
  have cN : w1.cell? ⟨z, 3, none⟩ = some (.int .i64 n) := (HA.out.step.cell 3).trans rfl
  have cL : w1.cell? ⟨z, 5, none⟩ = some (.bool l) := (HA.out.step.cell 5).trans rfl
  have HNA : Hid (NoneAt w1 pa) := hide (HN.out w1 (by rw [← HZ.out] at HA; exact HA.out.bel))
  have HA2 := HA
  have q0 := trivial
  have q1 := trivial
  have q2 := trivial
  have q3 := trivial
  have q4 := trivial
  have q5 := trivial
  have q6 := trivial
  have qf := trivial
  go_upto_region 49 with fail
  refine name_world (fun W => AskSt w z W (stepL k s o n (.slice ao xs.length c) l) xs (ansL 0 0 0 [] 0 0 [])) ?_ ?_
  · first | exact HA2.out | exact HA2.out.set 0 (.int .i64 1) | exact ((HA2.out.set 1 (.int .i64 0)).set 2 (.int .i64 0)).set 0 (.int .i64 1) | exact HA2.out.set 6 (.string ⟨#[]⟩) | exact HA2.out.set 3 (.string ⟨#[]⟩) | exact (HA2.out.set 3 (.string ⟨#[]⟩)).set 0 (.int .i64 1) | exact (HA2.out.set 4 (.int .i64 0)).set 5 (.int .i64 0)
  clear q0 q1 q2 q3 q4 q5 q6 qf HA2 HA HNA cK cS cO cN cL
  intro W3 ha3
  have HA3 := hide ha3
  clear ha3
  have hc1 := conv_rdA W3 _ xs (RdA.spare HA3.out.dat hlen)
  have hc2 := conv_rdA W3 _ xs (HV.out W3 HA3.out.bel)
  have cD : W3.cell? ⟨z, 4, none⟩ = some (.slice ao xs.length c) := (HA3.out.step.cell 4).trans rfl
  go_wp2_with (go_at_call 23; refine (clean_any W3 (z + 1 + 1 + 1) xs HA3.out.dat hlen).mono ?_; rintro e w4 ⟨rfl, hb4⟩; have HO := hide ((HA3.out.below hb4).over); clear hb4)
  clear hc1 hc2 cD HA3
  obtain ⟨m, hm⟩ : ∃ m, m = xs.length + 70 := ⟨_, rfl⟩
  rw [← hm] at HO ⊢
  have hlm : xs.length ≤ m := by omega
  clear hm HV HN
  generalize xs.length = n0 at *
  go_loopw [13] (fun t wr => ∃ (j : Nat) (zs : List UInt8), t = .int .i64 j ∧ j ≤ n0 ∧ OvSt w z wr m zs (ansL 0 0 0 [] 0 0 [])) (fun t _ => n0 - (intOf t).toNat)
  case atStart => exact ⟨0, spL xs, rfl, Nat.zero_le _, HO.out⟩
  case round =>
    clear HO
    obtain ⟨j, zs, rfl, hj, ho⟩ := hrel
    have HO := hide ho
    clear ho
    by_cases hlt : j < n0
    · have hlz : j < zs.length := by rw [HO.out.len]; omega
      obtain ⟨x, hx⟩ : ∃ x, x = zs[j] := ⟨_, rfl⟩
      have c1 := HO.out.dat.atU j x (by rw [hx]; exact List.getElem?_eq_getElem hlz)
      have f1 := HO.out.dat.frozen j
      obtain ⟨y, hy⟩ := xor_u8 x
      have HO2 := hide (HO.out.set j y)
      clear hx hlz HO
      go_wp2
      go_roundw
      case rel => exact ⟨j + 1, _, by go_num, by omega, HO2.out⟩
      case measure => simp [intOf]; omega
    · have HOO := hide HO.out.out
      have HOR := hide HO.out.res
      have HOB := hide HO.out.bel
      have HZW := hide HO.out.zw
      have HON := hide (ansL_one 0 0 0 [] 0 0 [])
      generalize hAN : ansL 0 0 0 [] 0 0 [] = AN at HOO HON
      have HAS : Hid (AN.size = 7) := hide (by rw [← hAN]; rfl)
      have HAN := hide hAN
      clear hAN HO
      go_wp2_with (first | ((with_reducible refine wpList_load_blk ?_ 39 _ Try.underlying39 ?_ 7 infoAns (.tmp 6) ?_ (z + 1 + 1) ?_ AN _ HOO.out HAS.out ?_); rfl; rfl; rfl; rfl) | ((with_reducible refine wpList_store_blk ?_ 39 (.tmp 4) (.tmp 206) ?_ (z + 1) 7 _ AN 39 HAS.out ?_ ?_ ?_ HOR.out infoAns HON.out ?_); rfl; rfl; rfl; rfl; rfl; intro w5 hk5 hg5))
      refine bodyPost_ret (results_cell2 rfl _ _ _ rfl _ (loadBlkT hk5 39 _ Try.underlying39 rfl 7 infoAns HAS.out)) rfl ⟨?_, ?_⟩
      · rw [← HAN.out]; first | rfl | (rw [HK.out]; rfl)
      · exact HOB.out.trans (below_grownBy hg5 (by have := HZW.out; omega) HOB.out.size)
end Go.Proofs.Ytffoadmaihpgoaa
