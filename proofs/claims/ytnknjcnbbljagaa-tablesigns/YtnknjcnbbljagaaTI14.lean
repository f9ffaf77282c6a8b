/- pairs. -/
import Derived.Test.YtnknjcnbbljagaaTI13
namespace Go.Proofs.Ytnknjcnbbljagaa
set_option linter.unusedVariables false
set_option linter.unusedSimpArgs false
set_option maxRecDepth 100000
open Go.RowKit
attribute [local go_sem] Oper.semAt_some

theorem allNotNil (b : Nat) (W : World) : (binOp .eql 106 (.func (.func 93) #[] #[.pointer (some ⟨b, 0, none⟩)]) .nilFunc).run Try.prog W = .ok (.bool false) W := by kernel_rfl
theorem inBlock_exit {Q : Exit → Act → World → Prop} {a : Act} {w : World} (id : Nat) (h : Q .normal a w) : Exit.inBlock id Q (.exit id) a w := by
  simp only [Exit.inBlock, if_true]
  exact h
theorem asg2 {F : Fence} {n : Nat} {P : Program} {o1 o2 : Oper} {i j : Nat} {x1 x2 : Operand} (g1 : o1.guard = none) (g2 : o2.guard = none) (h1 : o1.op = .assign x1) (h2 : o2.op = .assign x2) (a : Act) (W0 : World) (K : Act → World → Prop)
    (hK : K ((a.put o1.dst (a.eval x1)).put o2.dst ((a.put o1.dst (a.eval x1)).eval x2)) W0) : ((Code.region i #[o1] false).seq (Code.region j #[o2] false)).wpIn F n P (Exit.then K (fun _ _ _ => False)) a W0 := by
  refine wpIn_seq (wpIn_region_lit (l := [o1]) (BigFrame.wpListIn_want (by simp [Region.wanted, g1]) fun K1 hK1 => BigFrame.wpIn_assign x1 h1 (hK1 _ _ ?_)))
  refine wpIn_region_lit (l := [o2]) (BigFrame.wpListIn_want (by simp [Region.wanted, g2]) fun K2 hK2 => BigFrame.wpIn_assign x2 h2 (hK2 _ _ ?_))
  exact hK
section
variable {z gy ge : Nat} {T : TB} {F bt bm : Nat}
theorem prs_le {K V : Type} (L : List (Slt K V)) : (prs L).length ≤ L.length := by
  induction L with
  | nil => exact Nat.le_refl _
  | cons x L ih => cases x <;> simp [prs] <;> omega
theorem own_lowerI {w : World} {B : Nat} {v : Value} {xs : List Int} (h : OwnsI w (B + 1) v xs) : OwnsI w B v xs := by
  obtain ⟨h0, h1 | ⟨g, cap, cur, rfl, hb, r⟩⟩ := h
  · exact ⟨h0, .inl h1⟩
  · exact ⟨h0, .inr ⟨g, cap, cur, rfl, by omega, r⟩⟩
theorem own_put {w : World} {B D s n : Nat} {e : TypeId} {v : Value} {ys : List Value} {o o' : Obj} (h : w.ownsRow B e s v n ys) (hD : w.heap[D]? = some o) (hc : o.isCells = false := by rfl) : (w.putObj D o').ownsRow B e s v n ys := by
  obtain ⟨h0, h1 | ⟨g, cap, cur, rfl, hb, hh, hx⟩⟩ := h
  · exact ⟨h0, .inl h1⟩
  · refine ⟨h0, .inr ⟨g, cap, cur, rfl, hb, ?_, hx⟩⟩
    rw [World.putObj_heap_other (fun e => by rw [e, hD] at hh; cases hh; cases hc)]
    exact hh
theorem pairs_any (w : World) (H : TbAt w z gy ge (hvF F bt bm) T) (stop : Int) (hlen : T.prs.length ≤ 8796093022208) : Calls Try.prog 19 #[.pointer (some ⟨z, 0, none⟩), .int .i64 stop] w (PrsC w (flat (stopL stop T.prs))) := by
  obtain ⟨W2, hW2⟩ : ∃ W, W = (w.alloc (.cells #[.int .i64 stop] 3)).alloc (.cells #[.slice none 0 0] 40) := ⟨_, rfl⟩
  have hb2 : Below w.heap.size w W2 := by rw [hW2]; exact (below_alloc w _).alloc (by simp) _
  have HB3 : Hid (Blk W2 w.heap.size #[.int .i64 stop] 3) := hide (by rw [hW2]; exact (Blk.made w _ _).alloc _)
  have HB5 : Hid (Blk W2 (w.heap.size + 1) #[.slice none 0 0] 40) := hide (by
    rw [hW2]
    have h := Blk.made (w.alloc (.cells #[.int .i64 stop] 3)) #[.slice none 0 0] 40
    rw [World.size_alloc] at h
    exact h)
  have HT := hide (H.below hb2)
  have HBE := hide hb2
  have HA := hide (all_any W2 z)
  have hnn := allNotNil W2.heap.size
  have hW2' := hW2.symm
  clear H hb2 hW2
  refine (callsIn_wide (n := 5)).1 ?_
  refine callsIn_of_wp_marks Try.func19 rfl trivial ?_ rfl
  refine wpIn_wide.2 ?_
  simp only [Try.ntmps19, List.size_toArray, List.length_cons, List.length_nil, Nat.reduceAdd, Nat.reduceSub, Array.replicate_succ, Array.replicate_zero, List.push_toArray, List.append_toArray, List.nil_append, List.cons_append]
  go_upto_region 2 with fail
  clear hW2'
  go_upto_region 5 with (go_at_call 64; refine HA.out.mono ?_; rintro e w' ⟨rfl, hw⟩; rw [hw]; clear hw; unfold allV)
  have HT6 := hide (HT.out.below (below_alloc W2 (.cells #[.pointer (some ⟨z, 0, none⟩)] 26)))
  have HBx : Hid (Blk (W2.alloc (.cells #[.pointer (some ⟨z, 0, none⟩)] 26)) W2.heap.size #[.pointer (some ⟨z, 0, none⟩)] 26) := hide (Blk.made W2 _ _)
  have HS0 : Hid (PrS w w.heap.size (w.heap.size + 1) stop T [] (W2.alloc (.cells #[.pointer (some ⟨z, 0, none⟩)] 26))) := hide ⟨⟨_, HB5.out.alloc _, World.ownsRow_nil _ _ _ _⟩, HB3.out.alloc _, List.nil_prefix, HBE.out.alloc HBE.out.size _⟩
  refine name_world (fun W => TbAt W z gy ge (hvF F bt bm) T ∧ Blk W W2.heap.size #[.pointer (some ⟨z, 0, none⟩)] 26 ∧ PrS w w.heap.size (w.heap.size + 1) stop T [] W) ⟨HT6.out, HBx.out, HS0.out⟩ ?_
  rintro W ⟨hT, hBx, hS⟩
  have HTW := hide hT
  have HBW := hide hBx
  have HSW := hide hS
  clear HT6 HBx HS0 hT hBx hS HA hnn HBE HT HB3 HB5
  generalize W2.heap.size = b6 at *
  go_wp2
  refine (wpIn_wide (n := 5)).1 ?_
  refine wpIn_rangeKp rfl (by omega) (gf := 93) (lb := #[.pointer (some ⟨b6, 0, none⟩)]) rfl trivial (enters_of Try.func93 (by kernel_rfl) rfl) (all_fit (5 - 1) W HTW.out b6 HBW.out) (Below.refl _ _) (KeepT.keeping tys) (fun _ => rfl) (fun _ _ _ _ _ _ _ h _ _ => h)
    (fun pre W => (∀ j : Nat, 0 < j → j ≤ pre.length → (j : Int) ≠ stop) ∧ PrS w w.heap.size (w.heap.size + 1) stop T pre W)
    (fun c pre W => (c = .exit 0 ∧ (pre.length : Int) = stop ∧ 0 < pre.length) ∧ PrS w w.heap.size (w.heap.size + 1) stop T pre W)
    (ownFrom_mk (fun pre => ∀ j : Nat, 0 < j → j ≤ pre.length → (j : Int) ≠ stop) (PrS.ownFrom HSW.out.bel.size))
    (fun c => ownFrom_mk (fun pre => c = .exit 0 ∧ (pre.length : Int) = stop ∧ 0 < pre.length) (PrS.ownFrom HSW.out.bel.size))
    ⟨fun j h1 h2 => by simp at h2; omega, HSW.out⟩ ?round ?done ?stop
  case round =>
    rintro l pre ⟨kx, vx⟩ Wp W1 ⟨hnj, hS⟩ hbW hfit
    obtain ⟨⟨v0, hv0, hown⟩, hstp, hpf, hbel⟩ := hS
    obtain ⟨ao, cap, hvf, _⟩ := hown.form
    rw [flat_len] at hvf
    subst hvf
    have HO1 := hide (hown.below hbW)
    have HV1 := hide (hv0.below hbW hv0.lt)
    have HP1 := hide (hstp.below hbW hstp.lt)
    have HB1 : Hid (Below w.heap.size w W1) := hide (hbel.trans (hbW.mono hbel.size))
    have HFit := hide hfit
    have HNJ := hide hnj
    have c5 : W1.cell? ⟨w.heap.size + 1, 0, none⟩ = some (.slice ao (2 * pre.length) cap) := by rw [HV1.out.cell]; rfl
    have hpl : pre.length + 1 ≤ 8796093022208 := by
      have := hfit.length_le
      simp at this
      omega
    clear hnj hv0 hown hstp hpf hbel hbW hfit
    refine ⟨?a1, ?asg, ?bd⟩
    case asg =>
      intro W0 K hK
      refine asg2 (x1 := .tmp 15) (x2 := .tmp 16) rfl rfl rfl rfl _ W0 K ?_
      exact hK
    case bd =>
      unfold prV
      simp only [List.zip_toArray, List.zip_cons_cons, List.zip_nil_right, List.foldl_toArray, List.foldl_cons, List.foldl_nil, List.setIfInBounds_toArray, List.set_cons_succ, List.set_cons_zero, Act.put, Act.eval]
      have HC1 : Hid (OwnsI (W1.alloc (.cells #[.int .i64 kx, .int .i64 vx] 3)) (w.heap.size + 1) (.slice ao (2 * pre.length) cap) (flat pre)) := hide (HO1.out.below (below_alloc _ _))
      have HC2 : Hid (Blk (W1.alloc (.cells #[.int .i64 kx, .int .i64 vx] 3)) W1.heap.size ([kx, vx].map i64c).toArray 3) := hide (Blk.made _ _ _)
      have HC3 : Hid ((flat pre).length + 2 ≤ 17592186044416) := hide (by rw [flat_len]; omega)
      have HC4 : Hid (w.heap.size + 1 ≤ (W1.alloc (.cells #[.int .i64 kx, .int .i64 vx] 3)).heap.size) := hide (by have := HB1.out.size; simp; omega)
      gi_wp2_with (gi_at_builtin; refine wpListIn_append_ints rfl _ _ rfl (w.heap.size + 1) _ (flat pre) rfl HC1.out W1.heap.size 2 2 rfl [kx, vx] rfl HC2.out HC3.out HC4.out ?_; intro v' w3 HO3 HG3 HL3; generalize hG : wpListIn _ _ _ _ _ _ _ _ = G)
      obtain ⟨ao3, cap3, hf3, _⟩ := HO3.out.form
      obtain ⟨c, hc⟩ : ∃ c, c = pre.length + 1 := ⟨_, rfl⟩
      obtain ⟨N, hN⟩ : ∃ N, N = 2 * c := ⟨_, rfl⟩
      rw [List.length_append, flat_len, show 2 * pre.length + [kx, vx].length = N by simp; omega] at hf3
      subst hf3
      have HV3 := hide ((HV1.out.alloc (.cells #[.int .i64 kx, .int .i64 vx] 3)).grown HG3.out (fun e => blk_own_ne (HV1.out.alloc _) HC1.out (by decide) _ e.symm rfl))
      have HP3 := hide ((HP1.out.alloc (.cells #[.int .i64 kx, .int .i64 vx] 3)).grown HG3.out (fun e => by have := (owns_lt HC1.out _ e.symm).1; omega))
      have HB3 : Hid (Below w.heap.size w w3) := hide (own_below (base := w.heap.size) (HB1.out.alloc HB1.out.size _) (own_lowerI HC1.out) (by have := HC4.out; omega) HG3.out)
      have HK3 : Hid (KeepT tys W1 w3) := hide ((KeepT.below (below_alloc W1 _)).trans (KeepT.grown HG3.out (fun r e => by
        obtain ⟨cs, t, fz, h1, h2⟩ := own_type HC1.out r e
        exact ⟨cs, t, fz, h1, by rw [h2]; decide⟩)))
      have HKO : Hid (KeepsOthers W1 w3) := hide ((KeepsOthers.of_grownBy (grownBy_below (below_alloc W1 _) (row := none)) (fun _ _ e => by cases e)).trans (KeepsOthers.of_grownBy HG3.out (fun r o e1 e2 => by
        obtain ⟨cs, t, fz, h1, h2⟩ := own_type HC1.out r e1
        rw [h1] at e2
        cases e2
        rfl)))
      have e5 : w3.cell? ⟨w.heap.size + 1, 0, none⟩ = some (.slice ao (2 * pre.length) cap) := by rw [HV3.out.cell]; rfl
      have f5 := HV3.out.frozen 0
      have e3 : w3.cell? ⟨w.heap.size, 0, none⟩ = some (.int .i64 stop) := by rw [HP3.out.cell]; rfl
      have HS4 : Hid (PrS w w.heap.size (w.heap.size + 1) stop T (pre ++ [(kx, vx)]) (w3.setCell ⟨w.heap.size + 1, 0, none⟩ (.slice ao3 N cap3))) := hide ⟨⟨_, HV3.out.set 0 _, by
        rw [flat_snoc]
        exact HO3.out.grown (grownBy_set _ _ _ _) (fun g e1 e2 => blk_own_ne HV3.out HO3.out (by decide) g e1 (Option.some.inj e2))⟩, HP3.out.setOther _ _ (by simp), HFit.out, HB3.out.setCell (by simp) _⟩
      have HK4 : Hid (KeepT tys W1 (w3.setCell ⟨w.heap.size + 1, 0, none⟩ (.slice ao3 N cap3))) := hide (HK3.out.trans (KeepT.setCell _ _ _ HV3.out (by decide)))
      have HKO4 : Hid (KeepsOthers W1 (w3.setCell ⟨w.heap.size + 1, 0, none⟩ (.slice ao3 N cap3))) := hide (HKO.out.trans (KeepsOthers.setCell _ _ _))
      have HCC := hide hc
      have hNb : N ≤ 17592186044416 := by omega
      have hcb : c ≤ 8796093022208 := by omega
      have hq : (N : Int).tdiv 2 = (c : Int) := by
        rw [show (N : Int) = (c : Int) * 2 by omega]
        exact Int.mul_tdiv_cancel _ (by decide)
      subst hG
      clear HC1 HC2 HC3 HC4 HO3 HG3 HL3 HV1 HP1 HO1 HB1 HV3 HP3 HB3 HK3 HKO c5 hc hN
      by_cases hst : (c : Int) = stop
      · have hsb : ((c : Int) == stop) = true := by simp [hst]
        have HST := hide hst
        clear hst
        gi_wp2
        exact ⟨HKO4.out, ⟨rfl, by rw [← HST.out, HCC.out]; simp, by simp⟩, HS4.out⟩
      · have hsb : ((c : Int) == stop) = false := by simp [hst]
        have HST := hide hst
        clear hst
        gi_wp2
        refine ⟨HKO4.out, HK4.out, fun j h1 h2 => ?_, HS4.out⟩
        by_cases e : j = c
        · rw [e]; exact HST.out
        · exact HNJ.out j h1 (by have := HCC.out; simp at h2; omega)
  case done =>
    rintro D xs W3 hD hxs ⟨hnj, hS⟩ hK
    obtain ⟨⟨v0, hv0, hown⟩, hstp, hpf, hbel⟩ := hS
    have HX : Hid (stopL stop T.prs = xs) := hide (by
      rw [alS] at hxs
      unfold stopL
      rw [← hxs]
      split
      · next h => exact (hnj stop.toNat (by omega) (by omega) (by omega)).elim
      · rfl)
    obtain ⟨ao, cap, hvf, _⟩ := hown.form
    have HO := hide hown
    have HBL := hide hbel
    have HD := hide hD
    have HKD := hide hK
    have HWS := hide HSW.out.bel.size
    rw [hvf] at hv0 HO
    generalize (flat xs).length = N at *
    have c5 : W3.cell? ⟨w.heap.size + 1, 0, none⟩ = some (.slice ao N cap) := by rw [hv0.cell]; rfl
    clear hvf hv0 hown hstp hpf hbel hnj hxs hD hK
    go_wp2
    refine leave1 rfl HKD.out rfl ⟨_, rfl, ?_, below_put HBL.out D _ (Nat.le_trans HWS.out HD.out)⟩
    rw [HX.out]
    exact own_lowerI (own_put HO.out HKD.out)
  case stop =>
    rintro D c pre W3 hD ⟨⟨rfl, hst, hp0⟩, hS⟩ hK
    obtain ⟨⟨v0, hv0, hown⟩, hstp, hpf, hbel⟩ := hS
    have HX : Hid (stopL stop T.prs = pre) := hide (by
      unfold stopL
      have hle := hpf.length_le
      rw [if_pos (by omega), show stop.toNat = pre.length by omega]
      exact (List.prefix_iff_eq_take.1 hpf).symm)
    obtain ⟨ao, cap, hvf, _⟩ := hown.form
    have HO := hide hown
    have HBL := hide hbel
    have HD := hide hD
    have HKD := hide hK
    have HWS := hide HSW.out.bel.size
    rw [hvf] at hv0 HO
    generalize (flat pre).length = N at *
    have c5 : W3.cell? ⟨w.heap.size + 1, 0, none⟩ = some (.slice ao N cap) := by rw [hv0.cell]; rfl
    clear hvf hv0 hown hstp hpf hbel hst hp0 hD hK
    refine wpIn_exit (inBlock_exit _ ?_)
    go_wp2
    refine leave1 rfl HKD.out rfl ⟨_, rfl, ?_, below_put HBL.out D _ (Nat.le_trans HWS.out HD.out)⟩
    rw [HX.out]
    exact own_lowerI (own_put HO.out HKD.out)
end
end Go.Proofs.Ytnknjcnbbljagaa
