/- A wide table's All: its walk. -/
import Derived.Test.YtdigjpddmfolgaaXP
import Derived.Test.YtdigjpddmfolgaaKRF2
import Derived.Shelf.RegionOpen
import Derived.WalkKit
import Derived.OwnWalkIn
import Derived.TacticsInMore
import Derived.LoopNIn
import Derived.LoopIn
namespace Go.Proofs.Ytdigjpddmfolgaa
set_option linter.unusedVariables false
set_option linter.unusedSimpArgs false
namespace TX
set_option maxRecDepth 100000
open Go.RowKit
attribute [local go_sem] Oper.semAt_some

theorem name_worldIn {F : Fence} {n : Nat} {P : Program} {c : Code} {Q : Exit → Act → World → Prop} {a : Act} {w : World} (R : World → Prop) (h : R w) (k : ∀ W, R W → c.wpIn F n P Q a W) : c.wpIn F n P Q a w := k w h
section
variable {F : Fence} {n : Nat} {ops : Array Oper} {rest : List Oper} {op : Oper} {a : Act} {w : World} {Q : Exit → Act → World → Prop}
theorem wpListIn_ldG {t : TypeId} (hg : Region.wanted op (yielded ops a.tmps) = true) (x : Operand) (ho : op.op = .load t x) (v : Value) (hr : (execOp a.eval op).run Try.prog w = .ok (.value v) w)
    (h : wpListIn F n Try.prog ops Q rest (a.put op.dst v) w) : wpListIn F n Try.prog ops Q (op :: rest) a w := by
  refine wpListIn_step fun K hK => ?_
  rw [if_pos hg]
  unfold Oper.wpIn
  refine ⟨by simp [Oper.about, ho], ?_⟩
  rw [Oper.semAt_plain F _ _ (by rw [ho]; intro c hc'; cases hc'), hr]
  exact hK _ _ h
theorem wpListIn_ldK (hg : Region.wanted op (yielded ops a.tmps) = true) (x : Operand) (ho : op.op = .load KT x) (b o : Nat) (hx : a.eval x = .pointer (some ⟨b, o, none⟩)) (k : KY) (h : w.rangeAt b o (kC k))
    (hk : wpListIn F n Try.prog ops Q rest (a.put op.dst (kV k)) w) : wpListIn F n Try.prog ops Q (op :: rest) a w :=
  wpListIn_ldG hg x ho _ (run_loadO ho hx (run_ldK h)) hk
theorem wpListIn_ldE (hg : Region.wanted op (yielded ops a.tmps) = true) (x : Operand) (ho : op.op = .load ET x) (b o : Nat) (hx : a.eval x = .pointer (some ⟨b, o, none⟩)) (e : EN) (h : w.rangeAt b o (eC e))
    (hk : wpListIn F n Try.prog ops Q rest (a.put op.dst (eV e)) w) : wpListIn F n Try.prog ops Q (op :: rest) a w :=
  wpListIn_ldG hg x ho _ (run_loadO ho hx (run_ldE h)) hk
theorem wpListIn_ldS (hg : Region.wanted op (yielded ops a.tmps) = true) (x : Operand) (ho : op.op = .load ST x) (b o : Nat) (hx : a.eval x = .pointer (some ⟨b, o, none⟩)) (s : SL) (h : w.rangeAt b o (slC s))
    (hk : wpListIn F n Try.prog ops Q rest (a.put op.dst (slV s)) w) : wpListIn F n Try.prog ops Q (op :: rest) a w :=
  wpListIn_ldG hg x ho _ (run_loadO ho hx (run_ldS h)) hk
/-- A slot is stored into memory that has just been laid. -/
theorem wpListIn_putS (hgd : op.guard = none) (x y : Operand) (ho : op.op = .store ST x y) (z : Nat) (hx : a.eval x = .pointer (some ⟨z, 0, none⟩)) (w0 : World) (hw : w = w0.alloc (.cells (slA .emp) ST)) (hz : z = w0.heap.size) (s : SL) (hy : a.eval y = slV s)
    (h : ∀ w', Hid (Blk w' z (slA s) ST) → Below w0.heap.size w0 w' → wpListIn F n Try.prog ops Q rest (a.put op.dst undef) w') : wpListIn F n Try.prog ops Q (op :: rest) a w := by
  subst hw hz
  have hk := Blk.made w0 (slA .emp) ST
  have hs : (slA s).size = (slA .emp).size := by rw [slA_size, slA_size]
  obtain ⟨k1, k2⟩ := setCells_blk hk (slA s) hs
  refine wpListIn_plain hgd fun K' hK' => ?_
  unfold Oper.wpIn
  refine ⟨by simp [Oper.about, ho], ?_⟩
  have hr : (execOp a.eval op).run Try.prog (w0.alloc (.cells (slA .emp) ST)) = .ok .skip ((w0.alloc (.cells (slA .emp) ST)).setCells w0.heap.size 0 (slA s).toList) := by
    have hst := run_storeAt_mid (P := Try.prog) (w0.alloc (.cells (slA .emp) ST)) w0.heap.size 0 ST (slA s) (there_row hk 0 _ (by rw [hs]; omega)) (by rw [slA_size]; exact iS) (all_oneCell_toArray (slC_one s))
    simp only [execOp, ho, hx, hy, Sem.run_bind, hst, Result.andThen_ok, Sem.run_pure]
  rw [Oper.semAt_plain F _ _ (by rw [ho]; intro c hc'; cases hc'), hr]
  exact hK' _ _ (h _ (hide k1) (below_grownBy (grownBy_trans (World.grownBy_alloc _ _ _) k2) (Nat.le_refl _) (Nat.le_refl _)))
end
theorem OwnFrom.grow {β : Type} {N : Nat} {J : β → World → Prop} (h : OwnFrom N J) {s : β} {A B : World} (hs : J s A) (hb : Below A.heap.size A B) : J s B := h s A B none hs (grownBy_below hb) (fun r e => by cases e)
/-- The types of a table's blocks. -/
def tys : List TypeId := [TT, ST, SST, 65]
theorem RowAt.keepT {w w' : World} {g : Nat} {L : List SL} (h : RowAt w g L) (hk : KeepT tys w w') : RowAt w' g L :=
  h.same (hk.same g _ _ _ h.blk (by decide))
theorem Blk.keepT {w w' : World} {b : Nat} {cs : Array Value} {t : TypeId} (h : Blk w b cs t) (hk : KeepT tys w w') (ht : t ∈ tys) : Blk w' b cs t := (hk.same b _ _ _ h ht).trans h
section
variable {z gy ge F : Nat} {T : TB}
theorem TbAt.keepT {w w' : World} {hv : Value} (h : TbAt w z gy ge hv T) (hk : KeepT tys w w') : TbAt w' z gy ge hv T :=
  ⟨Blk.keepT h.blk hk (by decide), h.ry.keepT hk, fun h0 => (h.re h0).keepT hk, h.ne, h.nil, h.ly, h.le, h.mm⟩
def allV (b : Nat) : Value := .func (.func 54) #[] #[.pointer (some ⟨b, 0, none⟩)]
theorem all_any (w : World) (z : Nat) : Calls Try.prog 37 #[.pointer (some ⟨z, 0, none⟩)] w fun e w' => e = .returned (allV w.heap.size) ∧ w' = w.alloc (.cells #[.pointer (some ⟨z, 0, none⟩)] 65) := by
  go_enter Try.func37, Try.ntmps37
  go_wp2
  go_ret
  exact ⟨rfl, rfl⟩
def prV (x : KY × EN) : Array Value := #[kV x.1, eV x.2]
def alS (T : TB) (xs : List (KY × EN)) : Prop := xs = T.prs
def alFit (T : TB) (pre : List (KY × EN)) (x : KY × EN) (_ _ : World) : Prop := (pre ++ [x]) <+: T.prs
/-- What has been told ahead of array i. -/
def tld (T : TB) (i : Nat) : List (KY × EN) := if i = 0 then [] else if i = 1 then prs T.e else T.prs
set_option maxHeartbeats 4000000 in
theorem all_fit (n : Nat) (w : World) (H : TbAt w z gy ge (hvF F) T) (b : Nat) (hb : Blk w b #[.pointer (some ⟨z, 0, none⟩)] 65) :
    SeqKp Fence.wide n Try.prog 54 #[.pointer (some ⟨b, 0, none⟩)] prV (KeepT tys) (alS T) (alFit T) w := by
  intro l J Jx W hW hJ hJx hY h0
  refine callsIn_of_wp Try.func54 rfl trivial ?_ rfl
  simp only [Try.ntmps54, List.size_toArray, List.length_cons, List.length_nil, Nat.reduceAdd, Nat.reduceSub, Array.replicate_succ, Array.replicate_zero, List.push_toArray, List.append_toArray, List.nil_append, List.cons_append]
  have HY := hide hY
  have HJ := hide hJ
  have HT := hide (H.below hW)
  have HB := hide (hb.below hW hb.lt)
  have HN := hide (none_no W HT.out)
  have cb : W.cell? ⟨b, 0, none⟩ = some (.pointer (some ⟨z, 0, none⟩)) := by rw [HB.out.cell]; rfl
  have c1 : W.cell? ⟨z, 1, none⟩ = some (.slice (some ⟨gy, 0, none⟩) T.y.length T.y.length) := by rw [HT.out.blk.cell]; rfl
  have c4 : ∃ ao, W.cell? ⟨z, 4, none⟩ = some (.slice ao T.e.length T.e.length) ∧ (T.e.length ≠ 0 → ao = some ⟨ge, 0, none⟩) := by
    by_cases h0 : T.e.length = 0
    · exact ⟨none, by rw [h0]; exact HT.out.cellE0 h0, fun h => absurd h0 h⟩
    · exact ⟨_, HT.out.cellE h0 rfl, fun _ => rfl⟩
  obtain ⟨ao, c4, hao⟩ := c4
  have HAO := hide hao
  have hzW := HT.out.blk.lt
  have hbW := HB.out.lt
  have HJ0 := hide h0
  have b43 := HT.out.b43
  have HB43 := hide b43
  clear hY H hb hJ hJx hW h0 hao b43
  gi_wp2
  refine ⟨trivial, fun h => (by cases h), ?_⟩
  refine (callsIn_wide.2 HN.out).mono ?_
  rintro e w' ⟨rfl, hw⟩
  subst hw
  generalize hne : T.e.length = ne at c4
  generalize hny : T.y.length = ny at c1
  gi_wp2
  refine wpIn_wide.2 ?_
  go_region
  have hb2 : Below w'.heap.size w' (w'.alloc (.cells #[.slice ao ne ne, .slice (some ⟨gy, 0, none⟩) ny ny] SST)).drew := below_dN (below_alloc w' _) 1
  have HS0 : Hid (TbAt (w'.alloc (.cells #[.slice ao ne ne, .slice (some ⟨gy, 0, none⟩) ny ny] SST)).drew z gy ge (hvF F) T ∧ Blk (w'.alloc (.cells #[.slice ao ne ne, .slice (some ⟨gy, 0, none⟩) ny ny] SST)).drew w'.heap.size #[.slice ao ne ne, .slice (some ⟨gy, 0, none⟩) ny ny] SST ∧ J [] (w'.alloc (.cells #[.slice ao ne ne, .slice (some ⟨gy, 0, none⟩) ny ny] SST)).drew) := hide ⟨HT.out.below hb2, Blk.made w' _ _, OwnFrom.grow HJ.out HJ0.out hb2⟩
  clear hb2
  have HNE := hide hne
  have HNY := hide hny
  gi_wp2
  refine name_worldIn (fun W => TbAt W z gy ge (hvF F) T ∧ Blk W w'.heap.size #[.slice ao ne ne, .slice (some ⟨gy, 0, none⟩) ny ny] SST ∧ J [] W) HS0.out ?_
  rintro W1 ⟨hT1, hB1, hJ1⟩
  have HT1 := hide hT1
  have HB1 := hide hB1
  have HJ1 := hide hJ1
  generalize w'.heap.size = sb at *
  clear HS0 hT1 hB1 hJ1 HT HB HJ0 HN hne hny c1 c4 cb hzW hbW
  gi_loopw [21] (fun t wr => ∃ (i : Nat) (pre : List (KY × EN)), t = .int .i64 i ∧ i ≤ 2 ∧ Hid (pre = tld T i) ∧ J pre wr ∧ KeepT tys W1 wr) (fun t _ => 2 - (intOf t).toNat)
  case atStart => exact ⟨0, [], rfl, by omega, hide rfl, HJ1.out, KeepT.refl _ _⟩
  case round =>
    obtain ⟨i, pre, rfl, hi, hpre, hJp, hKp⟩ := hrel
    by_cases hlt : i < 2
    · have hii : (i : Int) < 2 := by omega
      have HL : ∃ (L : List SL) (g : Nat) (av : Option Addr), wr.cell? ⟨sb, i, none⟩ = some (.slice av L.length L.length) ∧ (L.length ≠ 0 → av = some ⟨g, 0, none⟩ ∧ RowAt W1 g L) ∧ tld T (i + 1) = tld T i ++ prs L ∧ L.length ≤ 8796093022208 := by
        have hB := Blk.keepT HB1.out hKp (by decide)
        have h01 : i = 0 ∨ i = 1 := by omega
        rcases h01 with rfl | rfl
        · exact ⟨T.e, ge, ao, by rw [hB.cell, HNE.out]; rfl, fun h => ⟨HAO.out h, HT1.out.re h⟩, rfl, HB43.out.2⟩
        · exact ⟨T.y, gy, _, by rw [hB.cell, HNY.out]; rfl, fun _ => ⟨rfl, HT1.out.ry⟩, rfl, HB43.out.1⟩
      obtain ⟨L, g, av, hc, hrow, htl, hL43⟩ := HL
      obtain ⟨m, hm⟩ : ∃ m, m = L.length := ⟨_, rfl⟩
      rw [← hm] at hc hrow hL43
      have hsl := World.block_lt_of_cell? wr _ hc
      have HM := hide hm
      have HRW := hide hrow
      have HTL := hide htl
      have HPF : Hid (tld T (i + 1) <+: T.prs) := hide (by
        have h01 : i = 0 ∨ i = 1 := by omega
        rcases h01 with rfl | rfl
        · exact ⟨prs T.y, rfl⟩
        · exact ⟨[], List.append_nil _⟩)
      have HJp := hide hJp
      have HKp := hide hKp
      clear hm hrow htl hJp hKp
      gi_wp2
      gi_loopw [27] (fun t wr => ∃ (j : Nat) (pre : List (KY × EN)), t = .int .i64 j ∧ j ≤ m ∧ Hid (pre = tld T i ++ prs (L.take j)) ∧ J pre wr ∧ KeepT tys W1 wr) (fun t _ => m - (intOf t).toNat)
      case atStart => exact ⟨0, pre, rfl, Nat.zero_le _, hide (by rw [hpre.out]; simp [prs]), HJp.out, HKp.out⟩
      case round =>
        clear HJp HKp hsl hc
        obtain ⟨j, pre2, rfl, hj, hpr, hJq, hKq⟩ := hrel
        by_cases hjl : j < m
        · have hji : (j : Int) < (m : Int) := by omega
          obtain ⟨rfl, hr⟩ := HRW.out (by omega)
          have hr2 := hr.keepT hKq
          have hjL : j < L.length := by rw [← HM.out]; exact hjl
          have HSL := hide (hr2.slot j hjL)
          have hgl := hr2.lt
          have HPT := hide (prs_take L j hjL)
          obtain ⟨sl, hsl⟩ : ∃ s, s = sat L j := ⟨_, rfl⟩
          rw [← hsl] at HSL HPT
          have HKq := hide hKq
          have HJq := hide hJq
          have hzs := zero_S
          cases sl with
          | emp =>
            clear hr hr2 hsl hKq hJq
            gi_wp2_with (first | ((with_reducible refine wpListIn_ldS ?_ (.tmp 29) ?_ g (j * 37) ?_ (.emp : SL) HSL.out ?_); rfl; rfl; rfl) | ((with_reducible refine wpListIn_putS ?_ (.tmp 6) (.tmp 30) ?_ wr.heap.size ?_ wr ?_ ?_ (.emp : SL) ?_ ?_); rfl; rfl; rfl; rfl; rfl; rfl; intro w2 HB2 hb2; have HBW := hide hb2; have d0 : w2.cell? ⟨wr.heap.size, 0, none⟩ = some (.int .u8 0) := SB.st HB2.out; have l0 := Blk.lt HB2.out; clear hb2))
            refine ⟨fun f h => (by cases h), ?_⟩
            apply_assumption
            gi_wp2
            go_roundw
            case rel => exact ⟨j + 1, pre2, by go_num, by omega, hide (by rw [hpr.out, HPT.out]; simp [prS]), OwnFrom.grow HJ.out HJq.out HBW.out, HKq.out.trans (KeepT.below HBW.out)⟩
            case measure => simp [intOf]; omega
          | tmb =>
            clear hr hr2 hsl hKq hJq
            gi_wp2_with (first | ((with_reducible refine wpListIn_ldS ?_ (.tmp 29) ?_ g (j * 37) ?_ (.tmb : SL) HSL.out ?_); rfl; rfl; rfl) | ((with_reducible refine wpListIn_putS ?_ (.tmp 6) (.tmp 30) ?_ wr.heap.size ?_ wr ?_ ?_ (.tmb : SL) ?_ ?_); rfl; rfl; rfl; rfl; rfl; rfl; intro w2 HB2 hb2; have HBW := hide hb2; have d0 : w2.cell? ⟨wr.heap.size, 0, none⟩ = some (.int .u8 2) := SB.st HB2.out; have l0 := Blk.lt HB2.out; clear hb2))
            refine ⟨fun f h => (by cases h), ?_⟩
            apply_assumption
            gi_wp2
            go_roundw
            case rel => exact ⟨j + 1, pre2, by go_num, by omega, hide (by rw [hpr.out, HPT.out]; simp [prS]), OwnFrom.grow HJ.out HJq.out HBW.out, HKq.out.trans (KeepT.below HBW.out)⟩
            case measure => simp [intOf]; omega
          | ful kx vx =>
            have HPT2 : Hid (pre2 ++ [(kx, vx)] = tld T i ++ prs (L.take (j + 1))) := hide (by rw [hpr.out, HPT.out]; simp [prS])
            have HFit : Hid (∀ W', alFit T pre2 (kx, vx) wr W') := hide (fun W' => by
              unfold alFit
              rw [HPT2.out]
              refine List.IsPrefix.trans ?_ HPF.out
              rw [HTL.out]
              refine (List.prefix_append_right_inj _).2 ?_
              refine ⟨prs (L.drop (j + 1)), ?_⟩
              rw [← prs_append, List.take_append_drop])
            clear hr hr2 hsl hKq hJq
            gi_wp2_with (first | ((with_reducible refine wpListIn_ldS ?_ (.tmp 29) ?_ g (j * 37) ?_ (.ful kx vx) HSL.out ?_); rfl; rfl; rfl) | ((with_reducible refine wpListIn_putS ?_ (.tmp 6) (.tmp 30) ?_ wr.heap.size ?_ wr ?_ ?_ (.ful kx vx) ?_ ?_); rfl; rfl; rfl; rfl; rfl; rfl; intro w2 HB2 hb2; have HBW := hide hb2; have d0 : w2.cell? ⟨wr.heap.size, 0, none⟩ = some (.int .u8 1) := SB.st HB2.out; have l0 := Blk.lt HB2.out; clear hb2; have HKR : Hid (w2.rangeAt wr.heap.size 1 (kC kx)) := hide (SB.key HB2.out); have HER : Hid (w2.rangeAt wr.heap.size 33 (eC vx)) := hide (SB.val HB2.out)) | ((with_reducible refine wpListIn_ldK ?_ (.tmp 36) ?_ wr.heap.size 1 ?_ kx HKR.out ?_); rfl; rfl; rfl) | ((with_reducible refine wpListIn_ldE ?_ (.tmp 38) ?_ wr.heap.size 33 ?_ vx HER.out ?_); rfl; rfl))
            obtain ⟨fn, tmps, assign, bod, hy, hR⟩ := HY.out pre2 (kx, vx) wr w2 HJq.out HBW.out (HFit.out w2)
            unfold prV at hy
            dsimp only at hy
            have HR := hide hR
            clear hR d0 l0
            rw [hy]
            gi_wp2
            refine ⟨fun h => (by cases h), ?_⟩
            refine HR.out.mono ?_
            rintro e W3 (⟨rfl, hJ3, hk3⟩ | ⟨rfl, hJx3⟩)
            · have HJ3 := hide hJ3
              have HK3 := hide ((HKq.out.trans (KeepT.below HBW.out)).trans hk3)
              clear hJ3 hk3 HR hy
              gi_wp2
              go_roundw
              case rel => exact ⟨j + 1, pre2 ++ [(kx, vx)], by go_num, by omega, HPT2, HJ3.out, HK3.out⟩
              case measure => simp [intOf]; omega
            · have HX3 := hide hJx3
              clear hJx3 HR hy
              gi_wp2
              refine bodyPost_ret (results_none rfl _ _ _) rfl ?_
              exact ⟨⟨_, rfl⟩, .inr ⟨_, HX3.out⟩⟩
        · have hji : ¬ (j : Int) < (m : Int) := by omega
          have HE : Hid (pre2 = tld T (i + 1)) := hide (by rw [hpr.out, HTL.out, List.take_of_length_le (by rw [← HM.out]; omega)])
          have HJq := hide hJq
          have HKq := hide hKq
          clear hJq hKq
          gi_wp2
          go_roundw
          case rel => exact ⟨i + 1, pre2, by go_num, by omega, HE, HJq.out, HKq.out⟩
          case measure => simp [intOf]; omega
    · have hii : ¬ (i : Int) < 2 := by omega
      have HE : Hid (alS T pre) := hide (by rw [alS, hpre.out]; unfold tld; rw [if_neg (by omega), if_neg (by omega)])
      have HJp := hide hJp
      clear hJp hKp
      gi_wp2
      refine bodyPost_end (results_none rfl _ _ _) rfl ?_
      exact ⟨⟨_, rfl⟩, .inl ⟨pre, HE.out, HJp.out⟩⟩
end
end TX
end Go.Proofs.Ytdigjpddmfolgaa
