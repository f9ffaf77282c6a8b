/- Sum of a Hasher, and Sum. -/
import Derived.Test.YtjmjnecobaoofaaDoorSH7
namespace Go.Proofs.YtjmjnecobaoofaaDoor
set_option linter.unusedVariables false
set_option linter.unusedSimpArgs false
open Go.RowKit

/-- A key as a value. -/
def keyV (bs : List UInt8) : Value := .agg (bs.map u8c).toArray
theorem shaOf_len (bs : List UInt8) : (shaOf bs).length = 32 := bytes8_len _
theorem hlist_one {s : List Value} (hs : ∀ v ∈ s, v.oneCell' = true) (g : Bool) (W : List UInt8) (n : Nat) : ∀ v ∈ hlist s g W n, v.oneCell' = true := by
  intro v hv
  simp only [hlist, List.mem_append, List.mem_cons, List.mem_singleton, List.not_mem_nil, or_false] at hv
  rcases hv with hv | rfl | hv | rfl
  · exact hs v hv
  · rfl
  · exact u8c_one W v hv
  · rfl
theorem HB.range {w : World} {z : Nat} {t : TypeId} {pre post s : List Value} {g : Bool} {W : List UInt8} {n : Nat} (h : HB w z t pre post s g W n) : w.rangeAt z pre.length (hlist s g W n) := blk_mid h.blk
theorem blk_made1 (w : World) (o : Obj) (cs : Array Value) (t : TypeId) (z : Nat) (hz : z = w.heap.size + 1 := by rfl) : Blk ((w.alloc o).alloc (.cells cs t)) z cs t := by
  subst hz
  have := Blk.made (w.alloc o) cs t
  rwa [World.size_alloc] at this
def zS : S8 := ⟨0, 0, 0, 0, 0, 0, 0, 0⟩
/-- The zero Hasher's cells. -/
def zeroH : Array Value := (hlist (st8 zS) false zs64 0).toArray
theorem zeroH_size : zeroH.size = 74 := by kernel_rfl
theorem zero_has (W : World) : (zeroValue 59).run Tryd.prog W = .ok (.agg zeroH) W := by kernel_rfl
theorem wpList_load_has {ops : Array Oper} {rest : List Oper} {op : Oper} {a : Act} {w : World} {Q : Exit → Act → World → Prop} (hgd : op.guard = none) (x : Operand) (ho : op.op = .load 59 x)
    (z : Nat) (pre : List Value) (hx : a.eval x = .pointer (some ⟨z, pre.length, none⟩)) (cs : List Value) (hc : w.rangeAt z pre.length cs) (hn : cs.length = 74)
    (h : wpList Tryd.prog ops Q rest (a.put op.dst (.agg cs.toArray)) w) : wpList Tryd.prog ops Q (op :: rest) a w :=
  wpList_load_mid hgd 59 x ho z pre.length hx cs _ hc Tryd.underlying59 rfl (by rw [hn]; exact infoHas) h
theorem wpList_load_st {ops : Array Oper} {rest : List Oper} {op : Oper} {a : Act} {w : World} {Q : Exit → Act → World → Prop} (hgd : op.guard = none) (x : Operand) (ho : op.op = .load 56 x)
    (z o : Nat) (hx : a.eval x = .pointer (some ⟨z, o, none⟩)) (s : S8) (hc : w.rangeAt z o (st8 s))
    (h : wpList Tryd.prog ops Q rest (a.put op.dst s.val) w) : wpList Tryd.prog ops Q (op :: rest) a w :=
  wpList_load_mid hgd 56 x ho z o hx (st8 s) _ hc Tryd.underlying56 rfl infoS8 h
theorem has_two {w w2 : World} {z : Nat} {t : TypeId} {pre post s : List Value} {g : Bool} {W : List UInt8} {n : Nat} {o1 o2 : Obj} (h : HB w z t pre post s g W n) (hg : ((w.alloc o1).alloc o2).grownBy w2 (some (w.heap.size + 1))) : HB w2 z t pre post s g W n :=
  (h.below (((Below.refl _ _).alloc (Nat.le_refl _) o1).alloc (by simp) o2)).grown hg (fun e => by have := Option.some.inj e; have := h.blk.lt; omega)
theorem below_two {w w2 : World} {o1 o2 : Obj} (hg : ((w.alloc o1).alloc o2).grownBy w2 (some (w.heap.size + 1))) : Below w.heap.size w w2 :=
  (((Below.refl _ _).alloc (Nat.le_refl _) o1).alloc (by simp) o2).trans (below_grownBy hg (by omega) (by simp; omega))
theorem key_two {w w2 : World} {cs : Array Value} {t : TypeId} {o2 : Obj} (hg : ((w.alloc (.cells cs t)).alloc o2).grownBy w2 (some (w.heap.size + 1))) : Blk w2 w.heap.size cs t :=
  ((Blk.made w cs t).alloc o2).grown hg (fun e => by have := Option.some.inj e; omega)
/-- The zero key's cells. -/
def keyZ : Array Value := ((List.replicate 32 (0 : UInt8)).map u8c).toArray
set_option maxRecDepth 40000 in
set_option maxHeartbeats 4000000 in
theorem hsum_any (w : World) (hT : Tabs w) (z : Nat) (t : TypeId) (pre post : List Value) (bs : List UInt8) (hH : HOf w z t pre post bs) (hlen : bs.length ≤ 4611686018427387000) :
    Calls Tryd.prog 29 #[.pointer (some ⟨z, pre.length, none⟩)] w fun e w' => e = .returned (keyV (shaOf bs)) ∧ Below w.heap.size w w' := by
  obtain ⟨s, hB, hs⟩ := hH
  have hzl := hB.blk.lt
  have c73 := hB.c73
  have HB0 := hide hB
  obtain ⟨L, hL⟩ : ∃ L, L = hlist (st8 s) (decide (64 ≤ bs.length)) (wait bs) bs.length := ⟨_, rfl⟩
  have hLl : L.length = 74 := by rw [hL]; exact HB.len hB.sl hB.wl
  have hL1 : L.toArray.all (·.oneCell') = true := by rw [hL]; exact all_oneCell_toArray (hlist_one hB.one _ _ _)
  have hrg := hB.range
  rw [← hL] at hrg
  have HLL := hide hLl
  have HLS := hide (show L.toArray.size = 74 by simpa using hLl)
  have HL1 := hide hL1
  have HL := hide hL
  have HT := hide hT
  have HRG : Hid (∀ W, Below w.heap.size w W → W.rangeAt z pre.length L) := by
    intro W hW
    have := (hB.below hW).range
    rwa [← hL] at this
  have HS := hide hs
  clear hB hL hLl hL1 hrg hT hs
  have hzv := zero_has
  have HZS := hide zeroH_size
  go_enter Tryd.func29, Tryd.ntmps29
  go_wp2_with (first | ((with_reducible refine wpList_load_has ?_ (.tmp 8) ?_ z pre ?_ L (HRG.out _ ?_) HLL.out ?_); rfl; rfl; rfl; exact (Below.refl _ _).alloc (Nat.le_refl _) _) | ((with_reducible refine wpList_store_blk ?_ 59 (.tmp 3) (.tmp 9) ?_ (w.heap.size + 1) 74 zeroH L.toArray 59 HLS.out HZS.out ?_ ?_ ?_ infoHas HL1.out ?_); rfl; rfl; rfl; rfl; exact blk_made1 _ _ _ _ _; intro w2 hk2 hg2; have k73 := (has_two HB0.out hg2).c73))
  have hH2 := has_two HB0.out hg2
  have hb2 : Below w.heap.size w w2 := below_two hg2
  have hN2 : w.heap.size + 1 < w2.heap.size := hk2.lt
  have hr2 := key_two hg2
  have hO2 : HOf w2 (w.heap.size + 1) 59 [] [] bs := by
    refine ⟨s, ⟨?_, HB0.out.sl, HB0.out.wl, HB0.out.one⟩, HS.out⟩
    rw [List.nil_append, List.append_nil, ← HL.out]
    exact hk2
  have HO2 := hide hO2
  have HT2 := hide (HT.out.below hb2)
  have HR2 := hide hr2
  clear hH2 hk2 hg2 k73 hO2 hr2 HB0
  refine (stail w2 bs.length (by omega)).mono ?_
  rintro e w3 ⟨v, rfl, hov, hb3⟩
  have hvl := owns_lt hov
  have hHO3 := HO2.out.below hb3
  have hT3 := HT2.out.below hb3
  have hrv := Rd_owned hov
  have HR3 := hide (Blk.below HR2.out hb3 (Blk.lt HR2.out))
  have hb03 := hb2.trans (hb3.mono hb2.size)
  have hz3 := HT.out.sz
  have htl := tailL_length bs.length
  have HWR := hide (write_any w3 hT3 (w.heap.size + 1) (by omega) 59 [] [] bs (tailL bs.length) hHO3 v (.inl hrv) (fun b o l c e _ => by
    subst e
    have := (hvl b rfl).1
    omega) (by omega))
  clear hov hvl hHO3 hT3 hrv hb3
  go_wp2_with fail
  refine HWR.out.mono ?_
  rintro e w4 ⟨rfl, hO4, hg4⟩
  obtain ⟨s4, hB4, hs4⟩ := hO4
  have hwh := tailL_whole bs.length
  have hs4' : s4 = chain begin8 ((bs.length + (tailL bs.length).length) / 64) (bs ++ tailL bs.length) := by
    rw [List.length_append] at hs4
    exact hs4 (by omega)
  have hok4 : s4.ok := by rw [hs4']; exact chain_ok begin8_ok _ _
  have hrs := hB4.rs
  have HR4 := hide (HR3.out.grown hg4 (fun e => by have := Option.some.inj e; omega))
  have hb04 : Below w.heap.size w w4 := hb03.trans (below_grownBy hg4 (by omega) hb03.size)
  have HRS : Hid (w4.rangeAt (w.heap.size + 1) 0 (st8 s4)) := hrs
  have HS4 := hide hs4'
  clear hrs hs4 hs4' hB4 hg4 HWR HR3 hb03 HO2 HT2 htl hwh
  go_wp2_with ((with_reducible refine wpList_load_st ?_ (.tmp 16) ?_ (w.heap.size + 1) 0 ?_ s4 HRS.out ?_); rfl; rfl; rfl)
  refine (laid_any w4 s4 hok4).mono ?_
  rintro e w5 ⟨rfl, hb5⟩
  obtain ⟨kc, hkc⟩ : ∃ kc, kc = ((bytes8 s4).map u8c).toArray := ⟨_, rfl⟩
  rw [← hkc]
  have HR5 := hide (Blk.below HR4.out hb5 (Blk.lt HR4.out))
  have HL5 := hide (show kc.size = 32 by rw [hkc]; simp [bytes8_len])
  have HO5 := hide (show kc.all (·.oneCell') = true by rw [hkc]; exact all_oneCell_toArray (u8c_one (bytes8 s4)))
  have HKC := hide hkc
  have hb05 := hb04.trans (hb5.mono hb04.size)
  clear hkc hb5 hb04 HR4
  go_wp2_with ((with_reducible refine wpList_store_blk ?_ 24 (.tmp 2) (.tmp 18) ?_ w.heap.size 32 _ kc 24 HL5.out ?_ ?_ ?_ HR5.out infoKey HO5.out ?_); rfl; rfl; rfl; rfl; rfl; intro w6 hk6 hg6)
  refine bodyPost_ret (results_cell rfl _ _ _ rfl _ (loadBlkT hk6 24 _ Tryd.underlying24 rfl 32 infoKey HL5.out)) rfl ?_
  refine ⟨?_, hb05.trans (below_grownBy hg6 (Nat.le_refl _) hb05.size)⟩
  rw [HKC.out, HS4.out]
  rfl
theorem hsum_nil (w : World) : Calls Tryd.prog 29 #[.pointer none] w fun e w' => e = .returned (keyV (List.replicate 32 0)) ∧ Below w.heap.size w w' := by
  have HR := hide (Blk.made w #[.int .u8 0, .int .u8 0, .int .u8 0, .int .u8 0, .int .u8 0, .int .u8 0, .int .u8 0, .int .u8 0, .int .u8 0, .int .u8 0, .int .u8 0, .int .u8 0, .int .u8 0, .int .u8 0, .int .u8 0, .int .u8 0, .int .u8 0, .int .u8 0, .int .u8 0, .int .u8 0, .int .u8 0, .int .u8 0, .int .u8 0, .int .u8 0, .int .u8 0, .int .u8 0, .int .u8 0, .int .u8 0, .int .u8 0, .int .u8 0, .int .u8 0, .int .u8 0] 24)
  have HO := hide (show (#[.int .u8 0, .int .u8 0, .int .u8 0, .int .u8 0, .int .u8 0, .int .u8 0, .int .u8 0, .int .u8 0, .int .u8 0, .int .u8 0, .int .u8 0, .int .u8 0, .int .u8 0, .int .u8 0, .int .u8 0, .int .u8 0, .int .u8 0, .int .u8 0, .int .u8 0, .int .u8 0, .int .u8 0, .int .u8 0, .int .u8 0, .int .u8 0, .int .u8 0, .int .u8 0, .int .u8 0, .int .u8 0, .int .u8 0, .int .u8 0, .int .u8 0, .int .u8 0] : Array Value).all (·.oneCell') = true by kernel_rfl)
  go_enter Tryd.func29, Tryd.ntmps29
  go_wp2_with ((with_reducible refine wpList_store_blk ?_ 24 (.tmp 2) (.tmp 6) ?_ w.heap.size 32 _ #[.int .u8 0, .int .u8 0, .int .u8 0, .int .u8 0, .int .u8 0, .int .u8 0, .int .u8 0, .int .u8 0, .int .u8 0, .int .u8 0, .int .u8 0, .int .u8 0, .int .u8 0, .int .u8 0, .int .u8 0, .int .u8 0, .int .u8 0, .int .u8 0, .int .u8 0, .int .u8 0, .int .u8 0, .int .u8 0, .int .u8 0, .int .u8 0, .int .u8 0, .int .u8 0, .int .u8 0, .int .u8 0, .int .u8 0, .int .u8 0, .int .u8 0, .int .u8 0] 24 ?_ ?_ ?_ ?_ HR.out infoKey HO.out ?_); rfl; rfl; rfl; rfl; rfl; rfl; intro w6 hk6 hg6)
  refine bodyPost_ret (results_cell rfl _ _ _ rfl _ (loadBlkT hk6 24 _ Tryd.underlying24 rfl 32 infoKey rfl)) rfl ?_
  exact ⟨rfl, ((Below.refl _ _).alloc (Nat.le_refl _) _).trans (below_grownBy hg6 (Nat.le_refl _) (by simp))⟩
end Go.Proofs.YtjmjnecobaoofaaDoor
