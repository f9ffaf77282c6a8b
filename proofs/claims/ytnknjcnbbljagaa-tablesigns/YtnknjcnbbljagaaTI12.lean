/- All: its walk. -/
import Derived.Test.YtnknjcnbbljagaaTI11
import Derived.Test.YtnknjcnbbljagaaTRF2
import Derived.Shelf.RegionOpen
import Derived.WalkKit
import Derived.OwnWalkIn
import Derived.TacticsInMore
import Derived.LoopNIn
import Derived.LoopIn
namespace Go.Proofs.Ytnknjcnbbljagaa
set_option linter.unusedVariables false
set_option linter.unusedSimpArgs false
set_option maxRecDepth 100000
open Go.RowKit
attribute [local go_sem] Oper.semAt_some

theorem prs_append {K V : Type} (A B : List (Slt K V)) : prs (A ++ B) = prs A ++ prs B := by
  induction A with
  | nil => rfl
  | cons x A ih => cases x <;> simp [prs, ih]
def prS {K V : Type} : Slt K V → List (K × V)
  | .ful k v => [(k, v)]
  | .emp => []
  | .tmb => []
theorem prs_one {K V : Type} (s : Slt K V) : prs [s] = prS s := by cases s <;> rfl
theorem prs_take {K V : Type} (L : List (Slt K V)) (j : Nat) (h : j < L.length) : prs (L.take (j + 1)) = prs (L.take j) ++ prS (sat L j) := by
  rw [List.take_add_one, prs_append, sat_get h]
  simp [prs_one]
theorem name_worldIn {F : Fence} {n : Nat} {P : Program} {c : Code} {Q : Exit → Act → World → Prop} {a : Act} {w : World} (R : World → Prop) (h : R w) (k : ∀ W, R W → c.wpIn F n P Q a W) : c.wpIn F n P Q a w := k w h
/-- The types of a table's blocks. -/
def tys : List TypeId := [95, 150, 90, 26]
theorem RowAt.keepT {w w' : World} {g : Nat} {L : List SL} (h : RowAt w g L) (hk : KeepT tys w w') : RowAt w' g L := by
  obtain ⟨cur, hb, hc⟩ := h.row
  exact h.same (hk.same g _ _ _ hb (by decide))
theorem Blk.keepT {w w' : World} {b : Nat} {cs : Array Value} {t : TypeId} (h : Blk w b cs t) (hk : KeepT tys w w') (ht : t ∈ tys) : Blk w' b cs t := (hk.same b _ _ _ h ht).trans h
section
variable {z gy ge : Nat} {hv : Value} {T : TB} {F bt bm : Nat}
theorem TbAt.keepT {w w' : World} (h : TbAt w z gy ge hv T) (hk : KeepT tys w w') : TbAt w' z gy ge hv T :=
  ⟨h.blk.keepT hk (by decide), h.ry.keepT hk, fun h0 => (h.re h0).keepT hk, h.ne, h.nil, h.ly, h.le, h.mm⟩
def allV (b : Nat) : Value := .func (.func 93) #[] #[.pointer (some ⟨b, 0, none⟩)]
theorem all_any (w : World) (z : Nat) : Calls Try.prog 64 #[.pointer (some ⟨z, 0, none⟩)] w fun e w' => e = .returned (allV w.heap.size) ∧ w' = w.alloc (.cells #[.pointer (some ⟨z, 0, none⟩)] 26) := by
  go_enter Try.func64, Try.ntmps64
  go_wp2
  go_ret
  exact ⟨rfl, rfl⟩
def prV (x : Int × Int) : Array Value := #[.int .i64 x.1, .int .i64 x.2]
def alS (T : TB) (xs : List (Int × Int)) : Prop := xs = T.prs
def alFit (T : TB) (pre : List (Int × Int)) (x : Int × Int) (_ _ : World) : Prop := (pre ++ [x]) <+: T.prs
/-- What has been told ahead of array i. -/
def tld (T : TB) (i : Nat) : List (Int × Int) := if i = 0 then [] else if i = 1 then prs T.e else T.prs
theorem all_fit (n : Nat) (w : World) (H : TbAt w z gy ge (hvF F bt bm) T) (b : Nat) (hb : Blk w b #[.pointer (some ⟨z, 0, none⟩)] 26) :
    SeqKp Fence.wide n Try.prog 93 #[.pointer (some ⟨b, 0, none⟩)] prV (KeepT tys) (alS T) (alFit T) w := by
  intro l J Jx W hW hJ hJx hY h0
  refine callsIn_of_wp Try.func93 rfl trivial ?_ rfl
  simp only [Try.ntmps93, List.size_toArray, List.length_cons, List.length_nil, Nat.reduceAdd, Nat.reduceSub, Array.replicate_succ, Array.replicate_zero, List.push_toArray, List.append_toArray, List.nil_append, List.cons_append]
  have HY := hide hY
  have HJ := hide hJ
  have HT := hide (H.below hW)
  have HB := hide (hb.below hW hb.lt)
  have HN := hide (none_no W HT.out)
  have cb : W.cell? ⟨b, 0, none⟩ = some (.pointer (some ⟨z, 0, none⟩)) := by rw [HB.out.cell]; rfl
  have c1 : W.cell? ⟨z, 1, none⟩ = some (.slice (some ⟨gy, 0, none⟩) T.y.length T.y.length) := by rw [HT.out.blk.cell]; rfl
  have c4 : ∃ ao, W.cell? ⟨z, 4, none⟩ = some (.slice ao T.e.length T.e.length) ∧ (T.e.length ≠ 0 → ao = some ⟨ge, 0, none⟩) := by
    by_cases h0 : T.e.length = 0
    · exact ⟨none, by rw [h0]; exact HT.out.cellE0 h0, fun h => absurd h0 h⟩
    · exact ⟨_, HT.out.cellE h0 rfl, fun _ => rfl⟩
  obtain ⟨ao, c4, hao⟩ := c4
  have HAO := hide hao
  have hzW := HT.out.blk.lt
  have hbW := HB.out.lt
  have HJ0 := hide h0
  have b43 := HT.out.b43
  have HB43 := hide b43
  clear hY H hb hJ hJx hW h0 hao b43
  gi_wp2
  refine ⟨trivial, fun h => (by cases h), ?_⟩
  refine (callsIn_wide.2 HN.out).mono ?_
  rintro e w' ⟨rfl, hw⟩
  subst hw
  generalize hne : T.e.length = ne at c4
  generalize hny : T.y.length = ny at c1
  gi_wp2
  refine wpIn_wide.2 ?_
  go_region
  have hb2 : Below w'.heap.size w' (w'.alloc (.cells #[.slice ao ne ne, .slice (some ⟨gy, 0, none⟩) ny ny] 90)).drew := below_dN (below_alloc w' _) 1
  have HS0 : Hid (TbAt (w'.alloc (.cells #[.slice ao ne ne, .slice (some ⟨gy, 0, none⟩) ny ny] 90)).drew z gy ge (hvF F bt bm) T ∧ Blk (w'.alloc (.cells #[.slice ao ne ne, .slice (some ⟨gy, 0, none⟩) ny ny] 90)).drew w'.heap.size #[.slice ao ne ne, .slice (some ⟨gy, 0, none⟩) ny ny] 90 ∧ J [] (w'.alloc (.cells #[.slice ao ne ne, .slice (some ⟨gy, 0, none⟩) ny ny] 90)).drew) := hide ⟨HT.out.below hb2, Blk.made w' _ _, HJ.out _ _ _ HJ0.out hb2⟩
  clear hb2
  have HNE := hide hne
  have HNY := hide hny
  gi_wp2
  refine name_worldIn (fun W => TbAt W z gy ge (hvF F bt bm) T ∧ Blk W w'.heap.size #[.slice ao ne ne, .slice (some ⟨gy, 0, none⟩) ny ny] 90 ∧ J [] W) HS0.out ?_
  rintro W1 ⟨hT1, hB1, hJ1⟩
  have HT1 := hide hT1
  have HB1 := hide hB1
  have HJ1 := hide hJ1
  generalize w'.heap.size = sb at *
  clear HS0 hT1 hB1 hJ1 HT HB HJ0 HN hne hny c1 c4 cb hzW hbW
  gi_loopw [21] (fun t wr => ∃ (i : Nat) (pre : List (Int × Int)), t = .int .i64 i ∧ i ≤ 2 ∧ Hid (pre = tld T i) ∧ J pre wr ∧ KeepT tys W1 wr) (fun t _ => 2 - (intOf t).toNat)
  case atStart => exact ⟨0, [], rfl, by omega, hide rfl, HJ1.out, KeepT.refl _ _⟩
  case round =>
    obtain ⟨i, pre, rfl, hi, hpre, hJp, hKp⟩ := hrel
    by_cases hlt : i < 2
    · have hii : (i : Int) < 2 := by omega
      have HL : ∃ (L : List SL) (g : Nat) (av : Option Addr), wr.cell? ⟨sb, i, none⟩ = some (.slice av L.length L.length) ∧ (L.length ≠ 0 → av = some ⟨g, 0, none⟩ ∧ RowAt W1 g L) ∧ tld T (i + 1) = tld T i ++ prs L ∧ L.length ≤ 8796093022208 := by
        have hB := HB1.out.keepT hKp (by decide)
        have h01 : i = 0 ∨ i = 1 := by omega
        rcases h01 with rfl | rfl
        · exact ⟨T.e, ge, ao, by rw [hB.cell, HNE.out]; rfl, fun h => ⟨HAO.out h, HT1.out.re h⟩, rfl, HB43.out.2⟩
        · exact ⟨T.y, gy, _, by rw [hB.cell, HNY.out]; rfl, fun _ => ⟨rfl, HT1.out.ry⟩, rfl, HB43.out.1⟩
      obtain ⟨L, g, av, hc, hrow, htl, hL43⟩ := HL
      obtain ⟨m, hm⟩ : ∃ m, m = L.length := ⟨_, rfl⟩
      rw [← hm] at hc hrow hL43
      have hsl := World.block_lt_of_cell? wr _ hc
      have HM := hide hm
      have HRW := hide hrow
      have HTL := hide htl
      have HPF : Hid (tld T (i + 1) <+: T.prs) := hide (by
        have h01 : i = 0 ∨ i = 1 := by omega
        rcases h01 with rfl | rfl
        · exact ⟨prs T.y, rfl⟩
        · exact ⟨[], List.append_nil _⟩)
      have HJp := hide hJp
      have HKp := hide hKp
      clear hm hrow htl hJp hKp
      gi_wp2
      gi_loopw [27] (fun t wr => ∃ (j : Nat) (pre : List (Int × Int)), t = .int .i64 j ∧ j ≤ m ∧ Hid (pre = tld T i ++ prs (L.take j)) ∧ J pre wr ∧ KeepT tys W1 wr) (fun t _ => m - (intOf t).toNat)
      case atStart => exact ⟨0, pre, rfl, Nat.zero_le _, hide (by rw [hpre.out]; simp [prs]), HJp.out, HKp.out⟩
      case round =>
        clear HJp HKp hsl hc
        obtain ⟨j, pre2, rfl, hj, hpr, hJq, hKq⟩ := hrel
        by_cases hjl : j < m
        · have hji : (j : Int) < (m : Int) := by omega
          obtain ⟨rfl, hr⟩ := HRW.out (by omega)
          have hr2 := hr.keepT hKq
          have hjL : j < L.length := by rw [← HM.out]; exact hjl
          have d0 := hr2.c0 j hjL
          have d1 := hr2.c1 j hjL
          have d2 := hr2.c2 j hjL
          have hgl := hr2.lt
          have HPT := hide (prs_take L j hjL)
          obtain ⟨sl, hsl⟩ : ∃ s, s = sat L j := ⟨_, rfl⟩
          rw [← hsl] at d0 d1 d2 HPT
          obtain ⟨kx, hkx⟩ := kS_form sl
          obtain ⟨vx, hvx⟩ := vS_form sl
          rw [hkx] at d1
          rw [hvx] at d2
          have HKX := hide hkx
          have HVX := hide hvx
          have HSN := hide (rfl : sl.st = sl.st)
          have hs2 := sl.st_le
          have HKq := hide hKq
          have HJq := hide hJq
          cases sl with
          | emp =>
            have e0 : (((Slt.emp : SL).st : Nat) : Int) = 0 := rfl
            rw [e0] at d0
            clear hr hr2 hsl hkx hvx hKq hJq e0 hs2
            gi_wp2
            refine ⟨fun f h => (by cases h), ?_⟩
            apply_assumption
            gi_wp2
            go_roundw
            case rel => exact ⟨j + 1, pre2, by go_num, by omega, hide (by rw [hpr.out, HPT.out]; simp [prS]), HJ.out _ _ _ HJq.out (below_alloc wr _), HKq.out.trans (KeepT.below (below_alloc wr _))⟩
            case measure => simp [intOf]; omega
          | tmb =>
            have e0 : (((Slt.tmb : SL).st : Nat) : Int) = 2 := rfl
            rw [e0] at d0
            clear hr hr2 hsl hkx hvx hKq hJq e0 hs2
            gi_wp2
            refine ⟨fun f h => (by cases h), ?_⟩
            apply_assumption
            gi_wp2
            go_roundw
            case rel => exact ⟨j + 1, pre2, by go_num, by omega, hide (by rw [hpr.out, HPT.out]; simp [prS]), HJ.out _ _ _ HJq.out (below_alloc wr _), HKq.out.trans (KeepT.below (below_alloc wr _))⟩
            case measure => simp [intOf]; omega
          | ful k v =>
            have e0 : (((Slt.ful k v : SL).st : Nat) : Int) = 1 := rfl
            rw [e0] at d0
            obtain ⟨rfl, rfl⟩ : kx = k ∧ vx = v := ⟨by have := hkx; simp [kS] at this; exact this.symm, by have := hvx; simp [vS] at this; exact this.symm⟩
            have HPT2 : Hid (pre2 ++ [(kx, vx)] = tld T i ++ prs (L.take (j + 1))) := hide (by rw [hpr.out, HPT.out]; simp [prS])
            have hFit : alFit T pre2 (kx, vx) wr (wr.alloc (.cells #[.int .u8 1, .int .i64 kx, .int .i64 vx] 150)) := by
              unfold alFit
              rw [HPT2.out]
              refine List.IsPrefix.trans ?_ HPF.out
              rw [HTL.out]
              refine (List.prefix_append_right_inj _).2 ?_
              refine ⟨prs (L.drop (j + 1)), ?_⟩
              rw [← prs_append, List.take_append_drop]
            obtain ⟨fn, tmps, assign, bod, hy, hR⟩ := HY.out pre2 (kx, vx) wr _ hJq (below_alloc wr _) hFit
            unfold prV at hy
            dsimp only at hy
            have HR := hide hR
            clear hr hr2 hsl hkx hvx hKq hJq e0 hs2 hFit hR
            gi_wp2
            refine ⟨fun h => (by cases h), ?_⟩
            refine HR.out.mono ?_
            rintro e W3 (⟨rfl, hJ3, hk3⟩ | ⟨rfl, hJx3⟩)
            · have HJ3 := hide hJ3
              have HK3 := hide ((HKq.out.trans (KeepT.below (below_alloc wr _))).trans hk3)
              clear hJ3 hk3 HR hy
              gi_wp2
              go_roundw
              case rel => exact ⟨j + 1, pre2 ++ [(kx, vx)], by go_num, by omega, HPT2, HJ3.out, HK3.out⟩
              case measure => simp [intOf]; omega
            · have HX3 := hide hJx3
              clear hJx3 HR hy
              gi_wp2
              refine bodyPost_ret (results_none rfl _ _ _) rfl ?_
              exact ⟨⟨_, rfl⟩, .inr ⟨_, HX3.out⟩⟩
        · have hji : ¬ (j : Int) < (m : Int) := by omega
          have HE : Hid (pre2 = tld T (i + 1)) := hide (by rw [hpr.out, HTL.out, List.take_of_length_le (by rw [← HM.out]; omega)])
          have HJq := hide hJq
          have HKq := hide hKq
          clear hJq hKq
          gi_wp2
          go_roundw
          case rel => exact ⟨i + 1, pre2, by go_num, by omega, HE, HJq.out, HKq.out⟩
          case measure => simp [intOf]; omega
    · have hii : ¬ (i : Int) < 2 := by omega
      have HE : Hid (alS T pre) := hide (by rw [alS, hpre.out]; unfold tld; rw [if_neg (by omega), if_neg (by omega)])
      have HJp := hide hJp
      clear hJp hKp
      gi_wp2
      refine bodyPost_end (results_none rfl _ _ _) rfl ?_
      exact ⟨⟨_, rfl⟩, .inl ⟨pre, HE.out, HJp.out⟩⟩
end
end Go.Proofs.Ytnknjcnbbljagaa
