/- Keys held against one another, the world behind it told. -/
import Derived.Test.YtdigjpddmfolgaaIEm
import Derived.Lib.QuietBelow
import Derived.Test.YtdigjpddmfolgaaICm
import Derived.Test.YtdigjpddmfolgaaIE4l
namespace Go.Proofs.Ytdigjpddmfolgaa
set_option linter.unusedVariables false
set_option linter.unusedSimpArgs false
namespace TX
open Go.RowKit Go.Sort
set_option maxRecDepth 100000

theorem alloc2_grow (w : World) (a b : Obj) : (w.alloc a).alloc b = grow w #[a, b] := by
  rw [alloc_eq_grow, alloc_eq_grow, grow_grow]
  rfl
set_option maxHeartbeats 1000000 in
theorem compare_grown (a b : KY) (w : World) : Calls Try.prog 38 #[kV a, kV b] w fun e w' => e = .returned (.int .i64 (cmp a b)) ∧ ∃ q os', w' = grow (w.drewN q) os' := by
  have hsk := slice_key
  have HA : Hid (KB ((w.alloc (.cells (kA a) KT)).alloc (.cells (kA b) KT)) w.heap.size a) := hide ((Blk.made w _ _).alloc _)
  have HB : Hid (KB ((w.alloc (.cells (kA a) KT)).alloc (.cells (kA b) KT)) (w.heap.size + 1) b) := hide (blk_mk1 w _ _ _)
  have HC := hide (fun n => bCompare_any (((w.alloc (.cells (kA a) KT)).alloc (.cells (kA b) KT)).drewN n) w.heap.size (w.heap.size + 1) 32 32 a b (HA.out) (HB.out))
  go_enter Try.func38, Try.ntmps38
  go_upto_region 1 with fail
  go_quiet ((go_at_call 55; exact Calls.quiet_of_same (HC.out _)))
  go_wp2
  go_ret
  exact ⟨rfl, nq, _, (congrArg (fun W => World.drewN W nq) (alloc2_grow w _ _)).trans rfl⟩
/-- Quiet steps and calls that lay blocks and draw: the world is told. -/
theorem wp_region_quiet_drew {P : Program} {id : Nat} {Q : Exit → Act → World → Prop} {a : Act} {w : World} {l : List Oper} (hm : P.follows .mixedOrders = true) (hB : Region.lexB .any l.toArray = true)
    (h : wpQuiet P l.toArray (fun w' => ∃ p : Regrown, w' = grow (w.drewN p.d) p.os) (fun a' => ∀ w', (∃ p : Regrown, w' = grow (w.drewN p.d) p.os) → Q .normal a' w') l a) : (Code.region id l.toArray true).wp P Q a w :=
  wp_region_quiet (C := fun w' => ∃ p : Regrown, w' = grow (w.drewN p.d) p.os) hm hB ⟨⟨1, #[]⟩, by rw [grow_empty]; rfl⟩ (by simpa using h)
theorem grow_drew (w : World) (m n : Nat) (os os' : Array Obj) : grow ((grow (w.drewN m) os).drewN n) os' = grow (w.drewN (m + n)) (os ++ os') := by
  show grow (grow ((w.drewN m).drewN n) os) os' = _
  rw [grow_grow]
  unfold World.drewN
  simp [Nat.add_assoc]
theorem below_drew (w : World) (n : Nat) (os : Array Obj) : Below w.heap.size w (grow (w.drewN n) os) := below_regrown w (w.drawn + n) os
theorem kd_key {w : World} {b : Nat} {z : KE} (h : Blk w b (kdA z) KDT) : w.rangeAt b 0 (kC z.1) := fun j v hj => by
  refine (Blk.range h) j v ?_
  show (kdC z)[j]? = some v
  unfold kdC
  rw [List.getElem?_append_left ((List.getElem?_eq_some_iff.1 hj).1)]
  exact hj
theorem range_drew {w : World} {b o : Nat} {cs : List Value} (h : w.rangeAt b o cs) (n : Nat) (os : Array Obj) : (grow (w.drewN n) os).rangeAt b o cs := fun j u hj => ((below_drew w n os).cell (World.block_lt_of_cell? w _ (h j u hj))).trans (h j u hj)
theorem order_grown (a b : KE) (w : World) : Calls Try.prog 42 #[kdV a, kdV b] w fun e w' => e = .returned (.int .i64 (cmp a.1 b.1)) ∧ ∃ q os', w' = grow (w.drewN q) os' := by
  have HA : Hid (Blk ((w.alloc (.cells (kdA a) KDT)).alloc (.cells (kdA b) KDT)) w.heap.size (kdA a) KDT) := hide ((Blk.made w _ _).alloc _)
  have HB : Hid (Blk ((w.alloc (.cells (kdA a) KDT)).alloc (.cells (kdA b) KDT)) (w.heap.size + 1) (kdA b) KDT) := hide (blk_mk1 w _ _ _)
  go_enter Try.func42, Try.ntmps42
  go_upto_region 1 with fail
  obtain ⟨W, hW⟩ : ∃ W, W = (w.alloc (.cells (kdA a) KDT)).alloc (.cells (kdA b) KDT) := ⟨_, rfl⟩
  rw [← hW] at HA HB ⊢
  have HW := hide hW
  clear hW
  have HKA : Hid (W.rangeAt w.heap.size 0 (kC a.1)) := hide (kd_key HA.out)
  have HKB : Hid (W.rangeAt (w.heap.size + 1) 0 (kC b.1)) := hide (kd_key HB.out)
  have HC := hide (compare_grown a.1 b.1 W)
  go_wp2_with (first | ((with_reducible refine wpList_ldK ?_ (.tmp 5) ?_ w.heap.size 0 ?_ a.1 HKA.out ?_); rfl; rfl; rfl) | ((with_reducible refine wpList_ldK ?_ (.tmp 7) ?_ (w.heap.size + 1) 0 ?_ b.1 HKB.out ?_); rfl; rfl; rfl) | (go_at_call 38; (with_reducible refine HC.out.mono ?_); rintro e w2 ⟨rfl, hq2⟩; have HQ2 := hide hq2; clear hq2))
  go_ret
  obtain ⟨d, os, hd⟩ := HQ2.out
  refine ⟨rfl, d, #[.cells (kdA a) KDT, .cells (kdA b) KDT] ++ os, ?_⟩
  rw [hd, HW.out, alloc2_grow]
  exact (grow_drew w 0 d _ os).trans (by rw [Nat.zero_add])
end TX
end Go.Proofs.Ytdigjpddmfolgaa

/- entries: all entries of an index, their keys rising. -/
namespace Go.Proofs.Ytdigjpddmfolgaa
set_option linter.unusedVariables false
set_option linter.unusedSimpArgs false
namespace TX
open Go.RowKit Go.Sort
set_option maxRecDepth 100000
set_option maxHeartbeats 16000000
attribute [local go_sem] Oper.semAt_some

def SnL (f : KY → Option EN) (i : Nat) (V : List KE) : Prop := (V.map Prod.fst).Nodup ∧ ∀ k e, (k, e) ∈ V ↔ Seen f 0 i k e
theorem SnL.nil (f : KY → Option EN) : SnL f 0 [] := ⟨List.nodup_nil, fun k e => ⟨fun h => (by cases h), fun h => by obtain ⟨_, j, hj, _⟩ := h; omega⟩⟩
theorem SnL.step {f : KY → Option EN} {i : Nat} {V A : List KE} (h : SnL f i V) (hi : i < 16) (hA : Maps A (gsh f ((0 + i) % 16))) : SnL f (i + 1) (V ++ A) := by
  refine ⟨?_, fun k e => by rw [List.mem_append, h.2]; exact seen_step hA k e⟩
  rw [List.map_append, List.nodup_append]
  refine ⟨h.1, hA.nd, fun a ha b hb e => ?_⟩
  subst e
  obtain ⟨⟨k, u⟩, h1, rfl⟩ := List.mem_map.1 ha
  obtain ⟨⟨k2, v⟩, h2, e2⟩ := List.mem_map.1 hb
  simp only at e2
  subst e2
  obtain ⟨_, j, hj, hs⟩ := (h.2 _ _).1 h1
  have h3 := (hA.mem _ _).1 h2
  unfold gsh at h3
  by_cases hs2 : sh k2 = (0 + i) % 16
  · omega
  · rw [if_neg hs2] at h3; cases h3
theorem SnL.all {f : KY → Option EN} {V : List KE} (h : SnL f 16 V) : Maps V f := ⟨h.1, fun k e => (h.2 k e).trans (seen_all k e)⟩
theorem SnL.len {f : KY → Option EN} {i : Nat} {V B : List KE} (h : SnL f i V) (hB : Maps B f) : V.length ≤ B.length := by
  have h1 : (V.map Prod.fst).length ≤ (B.map Prod.fst).length := List.Nodup.length_le_of_subset h.1 (fun k hk => by
    obtain ⟨⟨q, e⟩, h2, rfl⟩ := List.mem_map.1 hk
    exact List.mem_map.2 ⟨(q, e), (hB.mem q e).2 ((h.2 q e).1 h2).1, rfl⟩)
  simpa using h1
/-- What entries leaves. -/
def EntC (w : World) (f : KY → Option EN) (e : Ending) (w' : World) : Prop := ∃ v V, e = .returned v ∧ OwnD w' w.heap.size v V ∧ Maps V f ∧ RisD V ∧ v.ownBlock.isSome = true ∧ Below w.heap.size w w'
theorem en_end {fn : Func} (hres : fn.results = #[.tmp 2]) {tmps : Array Value} {w w1 : World} {N lb : Nat} {Ds : List Nat} {V : List KE} {f : KY → Option EN} {v : Value} (hS : EnS w N lb Ds V w1) (ho : OwnD w1 N v V) (hbk : v.ownBlock.isSome = true) (h2 : tmps.getD 2 undef = v) (hN : N = w.heap.size) (hM : Maps V f) (hR : RisD V) :
    bodyPostM Fence.wide 5 Try.prog fn (EntC w f) .ret { tmps := tmps, defers := marks Ds } w1 := by
  refine leave_marks (N := N) w Ds w1 hS.nd (fun D hD => hS.df D hD) hS.bel (fun W' hb hs => ?_)
  refine ⟨_, results_tmp hres tmps _ W', v, V, by rw [h2], ?_, hM, hR, hbk, by rw [← hN]; exact hb⟩
  rw [← hN]
  refine ho.same (fun b e => hs b (fun hm => ?_))
  obtain ⟨cs, hc⟩ := ho.blk e
  exact (not_def hc).2 _ (hS.df b hm).2
theorem EnS.begin {w W : World} {m : Nat} (hb : Below w.heap.size w W) (hm : m ≤ 4398046511104) : EnS w w.heap.size (W.heap.size + 1) [] [] ((W.alloc (.cells (madeCells (kdA kdZ) (m * 36)) KDT)).alloc (.cells #[.slice (some ⟨W.heap.size, 0, none⟩) 0 m] KLT)) := by
  obtain ⟨W1, hW1⟩ : ∃ W1, W1 = W.alloc (.cells (madeCells (kdA kdZ) (m * 36)) KDT) := ⟨_, rfl⟩
  have ho : OwnD W1 W.heap.size (.slice (some ⟨W.heap.size, 0, none⟩) 0 m) [] := by rw [hW1]; exact OwnD.make W m hm
  have hs1 : W1.heap.size = W.heap.size + 1 := by rw [hW1]; simp
  have hl : Blk (W1.alloc (.cells #[.slice (some ⟨W.heap.size, 0, none⟩) 0 m] KLT)) (W.heap.size + 1) #[.slice (some ⟨W.heap.size, 0, none⟩) 0 m] KLT := by rw [← hs1]; exact Blk.made W1 _ _
  rw [← hW1]
  have hsz := hb.size
  have b1 : Below W.heap.size W W1 := by rw [hW1]; exact below_alloc W _
  have b2 : Below W.heap.size W (W1.alloc (.cells #[.slice (some ⟨W.heap.size, 0, none⟩) 0 m] KLT)) := b1.trans ((below_alloc W1 _).mono b1.size)
  exact ⟨⟨_, hl, (ho.below (below_alloc W1 _)).lower hsz, rfl⟩, by omega, hb.trans (b2.mono hsz), Nat.le_trans hsz b2.size, List.nodup_nil, fun D hD => by cases hD⟩
theorem OwnD.slice {w : World} {B : Nat} {v : Value} {V : List KE} (h : OwnD w B v V) : ∃ ao n c, v = .slice ao n c := by
  obtain ⟨ao, c, e, _⟩ := h.form
  exact ⟨ao, _, c, e⟩
theorem pre_len {f : KY → Option EN} {i : Nat} {V0 pre A B : List KE} {z : KE} (h : SnL f (i + 1) (V0 ++ A)) (hB : Maps B f) (hp : (pre ++ [z]) <+: A) : (V0 ++ pre).length + 1 ≤ B.length := by
  have h1 := h.len hB
  have h2 := hp.length_le
  simp only [List.length_append, List.length_singleton] at h1 h2 ⊢
  omega
theorem entries_any (hsort : SortsD) (w : World) {x P : Nat} {L : List Tab} {f : KY → Option EN} (hx : IxL w x 16 L f P) {B : List KE} (hB : Maps B f) (hBl : B.length < 2199023255552) : Calls Try.prog 21 #[.pointer (some ⟨x, 0, none⟩)] w (EntC w f) := by
  obtain ⟨N, hN⟩ : ∃ N, N = w.heap.size := ⟨_, rfl⟩
  have HSO := hide hsort
  clear hsort
  have HX := hide hx
  have HN := hide hN
  have HBB := hide hB
  have HBL := hide hBl
  have HLen := hide (len_ix hx)
  clear hx hB hBl
  refine (callsIn_wide (n := 5)).1 ?_
  refine callsIn_of_wp_marks Try.func21 rfl trivial ?_ rfl
  refine wpIn_wide.2 ?_
  simp only [Try.ntmps21, List.size_toArray, List.length_cons, List.length_nil, Nat.reduceAdd, Nat.reduceSub, Array.replicate_succ, Array.replicate_zero, List.push_toArray, List.append_toArray, List.nil_append, List.cons_append]
  go_upto_region 3 with fail
  have HMk : Hid (∀ (W : World) (A : List KE), Maps A f → (Instr.makeSlice KLT (.int .i64 0) (.int .i64 (A.length : Int))).run Try.prog W = .ok (.slice (some ⟨W.heap.size, 0, none⟩) 0 A.length) (W.alloc (.cells (madeCells (Value.cells (kdV kdZ)) (A.length * 36)) KDT))) := hide (fun W A hA => make_D A.length (by have := Maps.len hA HBB.out; have := HBL.out; omega) W)
  go_upto_region 4 with (go_at_call 12; (with_reducible refine HLen.out.mono ?_); rintro e w2 ⟨A, hA, rfl, hb⟩; have HA := hide hA; have HB2 := hide hb; have hmk := HMk.out w2 A hA; obtain ⟨m, hm⟩ : ∃ m, m = A.length := ⟨_, rfl⟩; have HM := hide hm; rw [← hm] at hmk ⊢; clear hA hb hm)
  have hm41 : m ≤ 4398046511104 := by have := Maps.len HA.out HBB.out; have := HBL.out; have := HM.out; omega
  refine name_world (fun W => EnS w N (w2.heap.size + 1) [] [] W) (by rw [hN]; exact EnS.begin HB2.out hm41) ?_
  rintro W hS
  obtain ⟨lb, hlb⟩ : ∃ lb, lb = w2.heap.size + 1 := ⟨_, rfl⟩
  rw [← hlb] at hS ⊢
  have HS0 := hide hS
  have HX0 := hide (HX.out.below (by have h := hS.bel; rw [HN.out] at h; exact h))
  clear hS hlb hm41 HB2 HMk hN
  go_upto_region 5 with ((with_reducible refine wpList_ldI ?_ (.tmp 15) ?_ x ?_ L f P HX0.out ?_); rfl; rfl; rfl)
  refine wp_loop (fun a' w' => ∃ (i : Nat) (Ds : List Nat) (V0 : List KE) (u1 u4 u5 u6 u7 u8 u9 u10 u11 u12 u13 u14 u15 u18 u19 u20 u21 u22 u23 u24 u25 u26 u27 u28 u29 u30 u31 u32 u33 : Value), a' = { tmps := #[.pointer (some ⟨x, 0, none⟩), u1, .slice none 0 0, .pointer (some ⟨lb, 0, none⟩), u4, u5, u6, u7, u8, u9, u10, u11, u12, u13, u14, u15, .agg (ixC L).toArray, .int .i64 (i : Int), u18, u19, u20, u21, u22, u23, u24, u25, u26, u27, u28, u29, u30, u31, u32, u33], defers := marks Ds } ∧ i ≤ 16 ∧ EnS w N lb Ds V0 w' ∧ SnL f i V0) (fun a' _ => 16 - (intOf (a'.tmps.getD 17 undef)).toNat) ?_ ?_
  · exact ⟨0, [], [], _, _, _, _, _, _, _, _, _, _, _, _, _, _, _, _, _, _, _, _, _, _, _, _, _, _, _, _, _, rfl, by omega, HS0.out, SnL.nil f⟩
  · rintro a' wr ⟨i, Ds, V0, u1, u4, u5, u6, u7, u8, u9, u10, u11, u12, u13, u14, u15, u18, u19, u20, u21, u22, u23, u24, u25, u26, u27, u28, u29, u30, u31, u32, u33, rfl, hi, hS, hL⟩
    clear HS0 HX0
    have HS := hide hS
    have HL := hide hL
    clear hS hL
    by_cases hlt : i < 16
    · have hji : (i : Int) < 16 := by omega
      obtain ⟨q, hq⟩ : ∃ q, q = (0 + i) % 16 := ⟨_, rfl⟩
      have hqi : q = i := by omega
      have HX1 := hide (HX.out.below (by have h := HS.out.bel; rw [HN.out] at h; exact h))
      obtain ⟨t, ht⟩ : ∃ t, L[i]? = some t := ⟨_, List.getElem?_eq_getElem (by rw [HX.out.len]; exact hlt)⟩
      obtain ⟨T, hT, _, hMp⟩ := (HX1.out.tab i t ht).ex
      have hMp2 : Maps T.prs (gsh f ((0 + i) % 16)) := by rw [← hq, hqi]; exact hMp
      have HT := hide hT
      have HM2 := hide hMp2
      have HTL := hide ht
      have HAll := hide (fun w => all_any w t.z)
      have HSt := hide (HL.out.step hlt hMp2)
      clear hq hqi ht hT hMp hMp2 HX1
      go_upto_region 7 with (refine wpList_ixI ?_ (.tmp 16) (.tmp 17) ?_ L i t HTL.out ?_ ?_ hlt ?_; rfl; rfl; rfl; rfl)
      go_upto_region 8 with (go_at_call 37; (with_reducible refine (HAll.out wr).mono ?_); rintro e w' ⟨rfl, hw⟩; subst hw; unfold allV)
      have hb3 : Below wr.heap.size wr (wr.alloc (.cells #[.pointer (some ⟨t.z, 0, none⟩)] 65)) := below_alloc wr _
      have HB3 := hide (Blk.made wr #[.pointer (some ⟨t.z, 0, none⟩)] 65)
      have HT3 := hide (TbX.below HT.out hb3)
      have HS3 := hide (HS.out.below hb3)
      obtain ⟨w3, hw3⟩ : ∃ w3, w3 = wr.alloc (.cells #[.pointer (some ⟨t.z, 0, none⟩)] 65) := ⟨_, rfl⟩
      rw [← hw3] at HB3 HT3 HS3 ⊢
      generalize wr.heap.size = ab at *
      clear HT HS hb3 hw3 HAll
      have HDl : Hid (∀ D ∈ Ds, D < w3.heap.size) := hide (fun D hD => (Array.getElem?_eq_some_iff.1 (HS3.out.df D hD).2).1)
      have HNl : Hid (N ≤ w3.heap.size) := hide HS3.out.sz
      refine (wpIn_wide (n := 5)).1 ?_
      generalize hA0 : Act.mk _ _ = A0
      refine wpIn_rangeKl rfl (by omega) (gf := 54) (lb := #[.pointer (some ⟨ab, 0, none⟩)]) (by rw [← hA0]; rfl) trivial (enters_of Try.func54 (by kernel_rfl) rfl) (all_fit (5 - 1) w3 HT3.out ab HB3.out) (Below.refl _ _) (KeepT.keeping tys) (fun _ => rfl)
        (fun pre W => EnS w N lb Ds (V0 ++ pre) W)
        (fun _ _ _ => False)
        (EnS.own HNl.out HDl.out)
        (fun _ _ _ _ _ h => h.elim)
        (by rw [List.append_nil]; exact HS3.out) (fun A B h => KeepT.below h) ?round ?done ?stop
      case stop => exact fun D c pre W3 hD h => h.elim
      case done =>
        rintro D xs W4 hD hxs hS4 hK4
        have hx : xs = T.prs := hxs
        subst hx
        have HS5 : Hid (EnS w N lb (D :: Ds) (V0 ++ T.prs) W4) := hide ⟨hS4.row, hS4.lo, hS4.bel, hS4.sz, List.nodup_cons.2 ⟨fun h => by have := HDl.out D h; omega, hS4.nd⟩, fun D' h' => by
          rcases List.mem_cons.1 h' with rfl | h'
          · exact ⟨by have := HNl.out; omega, hK4⟩
          · exact hS4.df D' h'⟩
        clear hS4 hxs hK4 hD
        subst hA0
        go_wp2
        refine ⟨⟨i + 1, D :: Ds, V0 ++ T.prs, _, _, _, _, _, _, _, _, _, _, _, _, _, _, _, _, _, _, _, _, _, _, _, _, _, _, _, _, _, rfl, by omega, HS5.out, HSt.out⟩, ?_⟩
        simp [intOf]
        omega
      case round =>
        rintro l pre ⟨k, e⟩ Wp W1 hS1 hbW hfit
        have HC1 := hide (hS1.below hbW)
        have HPL : Hid ((V0 ++ pre).length + 1 ≤ 2199023255552) := hide (by have h1 := pre_len HSt.out HBB.out hfit; have h2 := HBL.out; omega)
        clear hS1 hbW hfit
        refine ⟨fun a₁ W₂ => a₁ = { tmps := (((A0.tmps.setIfInBounds 22 (kV k)).setIfInBounds 23 (eV e)).setIfInBounds 6 (.pointer (some ⟨W1.heap.size, 0, none⟩))).setIfInBounds 7 (.pointer (some ⟨W1.heap.size + 1, 0, none⟩)), defers := [] } ∧ KB W₂ W1.heap.size k ∧ EB W₂ (W1.heap.size + 1) e, ?asg, ?bd⟩
        case asg =>
          intro K hK
          have hzk2 := zero_K
          have hze2 := zero_E
          subst hA0
          unfold prV
          simp only [List.zip_toArray, List.zip_cons_cons, List.zip_nil_right, List.foldl_toArray, List.foldl_cons, List.foldl_nil, List.setIfInBounds_toArray, List.set_cons_succ, List.set_cons_zero]
          gi_wp2_with (first | ((with_reducible refine wpListIn_putK ?_ (.tmp 6) (.tmp 22) ?_ W1.heap.size ?_ W1 ?_ ?_ k ?_ ?_); rfl; rfl; rfl; rfl; rfl; rfl; intro w2 HK2 hb2 hs2) | ((with_reducible refine wpListIn_putE ?_ (.tmp 7) (.tmp 23) ?_ (W1.heap.size + 1) ?_ w2 ?_ hs2.symm e ?_ ?_); rfl; rfl; rfl; rfl; rfl; intro w4 HE4 hb4 hs4))
          exact hK _ _ ⟨rfl, HK2.out.below hb4, HE4.out⟩ (hb2.trans (hb4.mono hb2.size))
        case bd =>
          rintro a₁ W₂ q' o' ⟨rfl, hk, he⟩ hb2 hlo hle
          have hC3 := (HC1.out.below hb2).putLoop hlo o' (by have := HNl.out; omega)
          have hne : W1.heap.size ≠ l := fun e => by
            have h1 := hk
            unfold KB Blk at h1
            rw [e, hlo] at h1
            cases h1
          have hne2 : W1.heap.size + 1 ≠ l := fun e => by
            have h1 := he
            unfold EB Blk at h1
            rw [e, hlo] at h1
            cases h1
          have hk3 : KB (W₂.putObj l o') W1.heap.size k := (World.putObj_heap_other hne).trans hk
          have he3 : EB (W₂.putObj l o') (W1.heap.size + 1) e := (World.putObj_heap_other hne2).trans he
          refine name_worldInK' (fun V => EnS w N lb Ds (V0 ++ pre) V ∧ KB V W1.heap.size k ∧ EB V (W1.heap.size + 1) e) ⟨hC3, hk3, he3⟩ ?_
          rintro V ⟨hCV, hKV, hEV⟩
          clear hC3 hne hne2 hk3 he3 hk he hb2 hlo hle
          have HKV := hide hKV
          have HEV := hide hEV
          obtain ⟨v, hl, ho, hbk⟩ := hCV.row
          obtain ⟨ao, n, c, rfl⟩ := ho.slice
          have cL : V.cell? ⟨lb, 0, none⟩ = some (.slice ao n c) := by rw [hl.cell]; rfl
          have lL := hl.lt
          have hbb : Below V.heap.size V (V.alloc (.cells (kdA (k, e)) KDT)) := below_alloc V _
          have HBB2 := hide hbb
          have HSB := hide (hCV.below hbb)
          have HLB := hide (hl.below hbb lL)
          have HOB := hide (ho.below hbb)
          have HZB := hide (Blk.made V (kdA (k, e)) KDT)
          have HBK := hide hbk
          have HNB : Hid (N ≤ (V.alloc (.cells (kdA (k, e)) KDT)).heap.size) := hide (HSB.out.sz)
          clear hCV hKV hEV HC1 hl ho hbk hbb
          subst hA0
          simp only [List.setIfInBounds_toArray, List.set_cons_succ, List.set_cons_zero]
          gi_wp2_with (first | ((with_reducible refine wpListIn_ldK ?_ (.tmp 6) ?_ W1.heap.size 0 ?_ k HKV.out.rng ?_); rfl; rfl; rfl) | ((with_reducible refine wpListIn_ldE ?_ (.tmp 7) ?_ (W1.heap.size + 1) 0 ?_ e HEV.out.rng ?_); rfl; rfl; rfl) | ((with_reducible refine wpListIn_bdKD ?_ (.tmp 25) (.tmp 26) ?_ k e ?_ ?_ ?_); rfl; rfl; rfl; rfl) | ((with_reducible refine wpListIn_bsD ?_ (.tmp 27) (k, e) ?_ ?_ ?_); rfl; rfl; rfl) | ((with_reducible refine wpListIn_appD ?_ (.tmp 24) (.tmp 28) ?_ N (.slice ao n c) (V0 ++ pre) ?_ HOB.out V.heap.size ?_ (k, e) HZB.out HPL.out HNB.out ?_); rfl; rfl; rfl; rfl; intro v' w4 HO4 HG4 HV4; obtain ⟨ao', n', c', rfl⟩ := HO4.out.slice; obtain ⟨hl4, hn4, hk4, ht4⟩ := HSB.out.push HLB.out HOB.out HBK.out HO4.out HG4.out HV4.out; have HN4 := hide hn4; have HK4 := hide hk4; have HT4 := hide ht4; have f4 := hl4.frozen 0; have c4 : w4.cell? ⟨lb, 0, none⟩ = some (.slice ao n c) := (by rw [hl4.cell]; rfl); have l4 := hl4.lt; clear hl4 hn4 hk4 ht4))
          exact ⟨(KeepsLD.below HBB2.out).trans HK4.out, (KeepT.below HBB2.out).trans HT4.out, by have h := HN4.out; rw [List.append_assoc] at h; exact h⟩
    · obtain rfl : i = 16 := by omega
      have hji : ¬ ((16 : Nat) : Int) < 16 := by decide
      have hM := HL.out.all
      have HMF := hide hM
      obtain ⟨v, hl, ho, hbk⟩ := HS.out.row
      obtain ⟨ao, n, c, rfl⟩ := ho.slice
      have cL : wr.cell? ⟨lb, 0, none⟩ = some (.slice ao n c) := by rw [hl.cell]; rfl
      have lL := hl.lt
      have HLB := hide hl
      have HOB := hide ho
      have HBK := hide hbk
      have HC := hide (HSO.out wr N _ V0 ho hbk hM.nd (by have := Maps.len hM HBB.out; have := HBL.out; omega))
      clear hM hl ho hbk
      go_upto_region 13 with (go_at_call 41; (with_reducible refine HC.out.mono ?_); rintro e w3 ⟨rfl, V', hp, hr, ho3, hg3⟩; have HP := hide hp; have HR := hide hr; have HO3 := hide ho3; have HS3 := hide (HS.out.sorted HLB.out HOB.out HBK.out ho3 hg3); have HL3 := hide (blk_grewD HOB.out hg3 HLB.out (by decide)); clear hp hr ho3 hg3)
      clear cL lL
      have cL : w3.cell? ⟨lb, 0, none⟩ = some (.slice ao n c) := by rw [HL3.out.cell]; rfl
      have lL := HL3.out.lt
      go_wp2
      exact en_end rfl HS3.out HO3.out HBK.out rfl HN.out (HMF.out.perm HP.out) HR.out
end TX
end Go.Proofs.Ytdigjpddmfolgaa

/- slices.SortFunc over a row of keys with entries. -/
namespace Go.Proofs.Ytdigjpddmfolgaa
set_option linter.unusedVariables false
set_option linter.unusedSimpArgs false
namespace TX
open Go.RowKit Go.Sort Go.Shelf
set_option maxRecDepth 100000

theorem cmpSWO : SWO (ltOf fun x y : KE => cmp x.1 y.1) where
  irrefl x := by
    show decide (cmp x.1 x.1 < 0) = false
    rw [cmp_self]
    rfl
  trans x y z h1 h2 := by
    unfold ltOf at *
    have a1 : cmp x.1 y.1 < 0 := by simpa using h1
    have a2 : cmp y.1 z.1 < 0 := by simpa using h2
    have a3 : cmp x.1 z.1 < 0 := cmp_trans a1 a2
    simpa using a3
  ntrans x y z h1 h2 := by
    unfold ltOf at *
    have h1' : ¬ cmp x.1 y.1 < 0 := by simpa using h1
    have h2' : ¬ cmp y.1 z.1 < 0 := by simpa using h2
    have : ¬ cmp x.1 z.1 < 0 := by
      have e1 := cmp_neg x.1 y.1
      have e2 := cmp_neg y.1 z.1
      have e3 := cmp_neg x.1 z.1
      rcases cmp_tri z.1 y.1 with h | h | h
      · rcases cmp_tri y.1 x.1 with g | g | g
        · have := cmp_trans h g; omega
        · rw [g] at h; omega
        · omega
      · rw [← h] at e1 h1'; omega
      · omega
    simpa using this
theorem flat_get [Inhabited KE] (xs : List KE) (t : Nat) (h : t < xs.length * 36) : (xs.flatMap kdC)[t]? = some ((kdC xs[t / 36]!)[t % 36]!) := by
  induction xs generalizing t with
  | nil => simp at h
  | cons x xs ih =>
    rw [List.flatMap_cons]
    by_cases h2 : t < 36
    · rw [List.getElem?_append_left (by rw [kdC_len]; exact h2), Nat.div_eq_of_lt h2, Nat.mod_eq_of_lt h2]
      have hl : t < (kdC x).length := by rw [kdC_len]; exact h2
      simp [List.getElem?_eq_getElem hl]
    · rw [List.getElem?_append_right (by rw [kdC_len]; omega), kdC_len, ih (t - 36) (by simp at h; omega)]
      have e1 : t / 36 = (t - 36) / 36 + 1 := by omega
      have e2 : t % 36 = (t - 36) % 36 := by omega
      rw [e1, e2]
      simp
theorem flat_len (xs : List KE) : (xs.flatMap kdC).length = xs.length * 36 := by
  induction xs with
  | nil => rfl
  | cons x xs ih => rw [List.flatMap_cons, List.length_append, ih, kdC_len, List.length_cons]; omega
theorem grownBy_sortedD [Inhabited KE] (w : World) (g m : Nat) (d : Array KE) (os : Array Obj) : w.grownBy (sortWorldK kdC 36 w g 0 m d os) (some g) := by
  unfold sortWorldK putRowK
  refine ⟨rfl, rfl, rfl, by simp [grow], fun k hk hne => ?_⟩
  have h1 : k ≠ g := fun e => hne (by rw [e])
  simp only [grow]
  rw [Array.getElem?_append_left (by simpa using hk)]
  simp [putRow, mapBlock, Sort.ahead, Array.getElem?_modify, Ne.symm h1]
theorem enterOrd : ∀ args w, (callFunc 42 args).run Try.prog w = .ok (.enter 42 args) w := enters_of Try.func42 (by kernel_rfl) rfl
theorem isAggD (w : World) : (isAgg KDT).run Try.prog w = .ok true w := by kernel_rfl
theorem sizeOfD (w : World) : (Go.sizeOf KDT).run Try.prog w = .ok 36 w := by kernel_rfl
theorem blk_sorted [Inhabited KE] {w : World} {g m n cap : Nat} {cur : Array Value} {d : Array KE} {os : Array Obj} (hB : Blk w g cur KDT) (hn : n ≤ cap) (hcs : cur.size = cap * 36) (hd : d.size = n) :
    ∃ cur2, Blk (sortWorldK kdC 36 w g 0 m d os) g cur2 KDT ∧ cur2.size = cap * 36 ∧ cur2.toList.take (n * 36) = d.toList.flatMap kdC := by
  refine ⟨putCells id 0 (flatK kdC 36 d) cur, ?_, by unfold putCells; rw [Array.size_mapIdx, hcs], ?_⟩
  · have hlt := Blk.lt hB
    unfold Blk at hB ⊢
    unfold sortWorldK putRowK
    simp only [grow]
    rw [Array.getElem?_append_left (by simpa [putRow, mapBlock, Sort.ahead] using hlt)]
    simp [putRow, mapBlock, Sort.ahead, Array.getElem?_modify, hB, onCells]
  · apply List.ext_getElem?
    intro t
    by_cases ht : t < n * 36
    · have hf := flat_get d.toList t (by simpa [hd] using ht)
      have hsz : t < cur.size := by rw [hcs]; exact Nat.lt_of_lt_of_le ht (Nat.mul_le_mul_right 36 hn)
      rw [hf, List.getElem?_take_of_lt ht]
      unfold putCells
      rw [Array.getElem?_toList, Array.getElem?_mapIdx, Array.getElem?_eq_getElem hsz]
      simp only [Option.map_some, Nat.zero_le, true_and, Nat.zero_add, size_flatK, hd, ht, if_true, Nat.sub_zero, id]
      have hlt : t / 36 < d.size := by omega
      have e : d[t / 36]! = d.toList[t / 36]! := by
        rw [getElem!_pos d _ hlt, getElem!_pos d.toList _ (by simpa using hlt), Array.getElem_toList]
      rw [get_flatK _ _ _ _ (by rw [hd]; exact ht), e]
    · rw [List.getElem?_take_eq_none (by omega), List.getElem?_eq_none (by rw [flat_len]; simp [hd]; omega)]
theorem sorts : SortsD := by
  intro w B v V ho hbk hnd hn
  haveI : Inhabited KE := ⟨kdZ⟩
  have ho0 := ho
  obtain ⟨hl, ⟨rfl, h1⟩ | ⟨g, cap, cur, rfl, hg, hh, hcap, hmax, hcs, ht⟩⟩ := ho
  · cases hbk
  have hglt : g < w.heap.size := (Array.getElem?_eq_some_iff.1 hh).1
  have hB : Blk w g cur KDT := hh
  have hH : HoldsK kdC 36 w g 0 V.toArray := by
    intro j hj
    have hj' : j < V.length * 36 := by simpa using hj
    refine ⟨?_, Blk.frozen hB _⟩
    rw [Nat.zero_add, Blk.cell hB, get_flatK _ _ _ _ (by simpa using hj')]
    have h2 := flat_get V j hj'
    rw [← ht, List.getElem?_take_of_lt hj', Array.getElem?_toList] at h2
    rw [h2]
    simp
  have hcmp : CmpLays Try.prog 42 #[] kdC 36 (fun x y : KE => cmp x.1 y.1) g 0 V.toArray.size w := by
    intro m os dk _ x y
    exact order_grown x y (sortWorldK kdC 36 w g 0 m dk os)
  have hsort := AnyQ.slices_SortFunc laysSF 36 isAggD sizeOfD kdC kdC_len kdC_one (fun x y : KE => cmp x.1 y.1) cmpSWO 42 #[] g 0 cap V.toArray w enterOrd hcmp hH hglt (by simp; omega)
  have hsz : V.toArray.size = V.length := by simp
  rw [hsz] at hsort
  refine Calls.mono hsort ?_
  rintro e W ⟨he, d', n, os, hp, hs, rfl⟩
  obtain ⟨hp1, _, hp3⟩ := hp
  have hp1' : d'.size = V.length := by rw [hp1]; simp
  have hperm : d'.toList.Perm V := by
    have h3 : (d'.toList.take V.length).Perm (V.take V.length) := by simpa using hp3
    rw [List.take_length, List.take_of_length_le (by simp [hp1'])] at h3
    exact h3
  have hnd2 : (d'.toList.map Prod.fst).Nodup := (hperm.map Prod.fst).nodup_iff.2 hnd
  obtain ⟨cur2, hb2, hs2, ht2⟩ := blk_sorted (m := n) (d := d') (os := os) hB hcap hcs hp1'
  refine ⟨he, d'.toList, hperm, ?_, ?_, grownBy_sortedD w g n d' os⟩
  · unfold RisD
    rw [List.pairwise_iff_getElem]
    intro i j hi hj hij
    have hi' : i < d'.size := by simpa using hi
    have hj' : j < d'.size := by simpa using hj
    have h2 := hs i j (Nat.zero_le _) hij (by rw [← hp1']; exact hj')
    have e1 : d'[i]! = d'[i]'hi' := getElem!_pos d' i hi'
    have e2 : d'[j]! = d'[j]'hj' := getElem!_pos d' j hj'
    rw [e1, e2] at h2
    unfold ltOf at h2
    have h3 : ¬ cmp (d'[j]'hj').1 (d'[i]'hi').1 < 0 := by simpa using h2
    simp only [Array.getElem_toList]
    rcases cmp_tri (d'[i]'hi').1 (d'[j]'hj').1 with e | e | e
    · exact e
    · exfalso
      have h5 := (List.pairwise_iff_getElem.1 hnd2) i j (by simpa using hi') (by simpa using hj') hij
      apply h5
      simpa using e
    · exact absurd e h3
  · refine ⟨by rw [flat_len], .inr ⟨g, cap, cur2, ?_, hg, hb2, ?_, hmax, hs2, ?_⟩⟩
    · simp [hp1']
    · rw [Array.length_toList, hp1']; exact hcap
    · rw [Array.length_toList, hp1']; exact ht2
end TX
end Go.Proofs.Ytdigjpddmfolgaa
