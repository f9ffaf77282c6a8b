/- The index: Put, as far as a power of two reaches. -/
import Derived.Test.YtdigjpddmfolgaaXV
import Derived.Stop.BytesEq
namespace Go.Proofs.Ytdigjpddmfolgaa
set_option linter.unusedVariables false
set_option linter.unusedSimpArgs false
namespace TX
set_option maxRecDepth 100000
set_option maxHeartbeats 8000000
open Go.RowKit Go.Sort
theorem stepT_y (hs : KY → Nat) (T : TB) : (stepT hs T).y.length = T.y.length := by
  unfold stepT
  split
  · rfl
  · obtain ⟨l1, l2, l3⟩ := mvN_len hs 8 T
    unfold endT
    split <;> exact l2
theorem growN_pow (a l : Nat) : ∃ b, a ≤ b ∧ growN (2 ^ a) l = 2 ^ b := by
  unfold growN
  exact dbl_pow _ _ a
section
variable {w : World} {z gy ge F : Nat} {hf : KY → Nat} {g : KY → Option EN} {P : Nat}
theorem tput_anyw (h : TbM w z gy ge F hf g P) (HF : HsAt F hf) (hP : P < 1099511627776) (k : KY) (v : EN) : Calls Try.prog 36 #[.pointer (some ⟨z, 0, none⟩), kV k, eV v] w fun e w' => e = .returned (optV (g k)) ∧ TbN w w' z gy ge F hf (upd g k (some v)) (P + 1) := by
  obtain ⟨T, ht, h1, h2⟩ := h.ex
  obtain ⟨hst, hpm, _⟩ := h1.step
  have hm2 := h2.perm hpm
  have hG : GrowOk (⟨lay (stepT hf T).y (hf k) k v, (stepT hf T).e, (stepT hf T).m⟩ : TB) := by
    intro hl hu
    have h4 := (hst.more k v).2.2.2 hl (by
      have e : (⟨lay (stepT hf T).y (hf k) k v, (stepT hf T).e, (stepT hf T).m⟩ : TB).y.length = (stepT hf T).y.length := lay_length ..
      rw [e] at hu
      exact hu)
    rw [show (⟨lay (stepT hf T).y (hf k) k v, (stepT hf T).e, (stepT hf T).m⟩ : TB).y.length = (stepT hf T).y.length from lay_length ..]
    obtain ⟨a, _, hna⟩ := ht.ly
    have hl2 : (stepT hf T).y.length = 2 ^ a := by rw [stepT_y]; exact hna
    rw [hl2] at h4 ⊢
    obtain ⟨b, _, hb⟩ := growN_pow a (Tb.len (⟨lay (stepT hf T).y (hf k) k v, (stepT hf T).e, (stepT hf T).m⟩ : TB))
    rw [hb] at h4 ⊢
    rcases Nat.lt_or_ge 41 b with h | h
    · have : 2 ^ 42 ≤ 2 ^ b := Nat.pow_le_pow_right (by decide) h
      omega
    · have : 2 ^ b ≤ 2 ^ 41 := Nat.pow_le_pow_right (by decide) h
      omega
  refine (put_any w ht HF h1.ok k v hG).mono ?_
  rintro e w' ⟨rfl, ⟨gy', ge', ht', hn⟩, hfr⟩
  obtain ⟨m1, m2⟩ := maps_seek hst.wy hst.we hm2 k
  have hd := hst.put (eqK_hs hf) k v eZ
  refine ⟨by unfold ansV optV; rw [m1, m2], ⟨gy', ge', ⟨_, ht', hd.inv, ?_⟩, hn⟩, hfr⟩
  by_cases hr : (seek eqK hf (stepT hf T) k).1 = none
  · obtain ⟨hp, hx⟩ := hd.no hr
    refine Maps.perm (Maps.lay hm2 (fun m => ?_) v) hp
    obtain ⟨x, hx1, hx2⟩ := List.mem_map.1 m
    have := hx x hx1
    rw [hx2, eqK_self] at this
    cases this
  · obtain ⟨k0, k1, R, he, hk, hp, hp'⟩ := hd.yes hr
    have e := (eqK_iff _ _).1 he
    subst e
    have e1 : k1 = k0 := by rcases hk with h | h <;> exact h
    subst e1
    obtain ⟨r1, _, r3⟩ := hm2.out hp
    have := (r1.lay r3 v).perm hp'
    rw [upd_upd] at this
    exact this
end
section
variable {w : World} {x : Nat} {L : List Tab} {f : KY → Option EN} {P : Nat}
theorem put_ixw (h : IxL w x 16 L f P) (hP : P < 1099511627776) (k : KY) (v : EN) : Calls Try.prog 13 #[.pointer (some ⟨x, 0, none⟩), kV k, eV v] w fun e w' => e = .returned (.bool (!(f k).isSome)) ∧ IxN w w' x L (putF f k v) (P + 1) := by
  obtain ⟨t, ht⟩ := h.shard k
  have HH := hide h
  have HT := hide ht
  have hz0 := zero_E
  have HPB := hide hP
  clear h ht hP
  go_enter Try.func13, Try.ntmps13
  go_upto_region 1 with fail
  refine name_world (fun W => Below w.heap.size w W ∧ KB W w.heap.size k ∧ EB W (w.heap.size + 1) v) ⟨(below_alloc w _).alloc (by simp) _, (KB.made w k).alloc _, EB.made' (by simp) v⟩ ?_
  rintro W ⟨hB, hK, hE⟩
  have HB := hide hB
  have HX := hide (HH.out.below hB)
  obtain ⟨kb, hkb⟩ : ∃ kb, kb = w.heap.size := ⟨_, rfl⟩
  rw [← hkb] at hK hE ⊢
  have HK := hide hK
  have HE := hide hE
  have HKR : Hid (W.rangeAt kb 0 (kC k)) := hide hK.rng
  have HS := hide (shard_any HX.out k HT.out)
  clear hB hK hE hkb
  unfold ptrV at HS
  go_upto_region 4 with (first | ((with_reducible refine wpList_ldK ?_ (.tmp 4) ?_ kb 0 ?_ k HKR.out ?_); rfl; rfl; rfl) | (go_at_call 34; (with_reducible refine HS.out.mono ?_); rintro e w1 ⟨rfl, hb1⟩; have HB1 := hide hb1; clear hb1))
  have HX1 := hide (HX.out.below HB1.out)
  have HK1 := hide (HK.out.below HB1.out)
  have HE1 := hide (HE.out.below HB1.out)
  have HKR1 : Hid (w1.rangeAt kb 0 (kC k)) := hide HK1.out.rng
  have HBA := hide (HB.out.trans (HB1.out.mono HB.out.size))
  have HG := hide (tget_any (HX1.out.tab _ t HT.out) hash_is k)
  rw [gsh_own] at HG
  clear HB1 HK HE HKR HS HX HB
  unfold optV at HG
  obtain ⟨u, hu⟩ : ∃ u, u = (f k).getD eZ := ⟨_, rfl⟩
  obtain ⟨bo, hbo⟩ : ∃ bo, bo = (f k).isSome := ⟨_, rfl⟩
  rw [← hu, ← hbo] at HG
  have HBO := hide hbo
  have HE0 : Hid (∀ w5 : World, EB (w5.alloc (.cells (eA eZ) ET)) w5.heap.size eZ) := hide (fun w5 => EB.made w5 eZ)
  clear hu hbo
  go_upto_region 5 with (first | ((with_reducible refine wpList_ldK ?_ (.tmp 4) ?_ kb 0 ?_ k HKR1.out ?_); rfl; rfl; rfl) | (go_at_call 35; (with_reducible refine HG.out.mono ?_); rintro e w2 ⟨rfl, hb2⟩; have HB2 := hide hb2; have HE5 := hide (HE0.out w2); clear hb2) | ((with_reducible refine wpList_stEB ?_ (.tmp 8) (.tmp 19) ?_ w2.heap.size ?_ eZ u ?_ HE5.out ?_); rfl; rfl; rfl; rfl; intro w3 h3 hg3))
  have hB3 : Below w1.heap.size w1 w3 := (HB2.out.trans ((below_alloc w2 _).mono HB2.out.size)).trans (below_grownBy hg3.out HB2.out.size (by have := HB2.out.size; simp; omega))
  have HB3 := hide hB3
  have HX3 := hide (HX1.out.below hB3)
  have HKR3 : Hid (w3.rangeAt kb 0 (kC k)) := hide (HK1.out.below hB3).rng
  have HER3 : Hid (w3.rangeAt (kb + 1) 0 (eC v)) := hide (HE1.out.below hB3).rng
  have HBF := hide (HBA.out.trans (hB3.mono HBA.out.size))
  obtain ⟨b8, hb8⟩ : ∃ b, b = w2.heap.size := ⟨_, rfl⟩
  rw [← hb8]
  clear hB3 h3 hg3 HB2 HE0 HE5 HX1 HK1 HE1 HKR1 HG hz0 hb8 HBA HB3
  cases bo with
  | true =>
    go_wp2
    go_ret
    refine ⟨by rw [← HBO.out]; rfl, ?_⟩
    unfold putF
    rw [← HBO.out, if_pos rfl]
    exact (HH.out.more (Nat.le_succ P)).nBelow HBF.out
  | false =>
    have HPT := hide (tput_anyw (HX3.out.tab _ t HT.out) hash_is HPB.out k v)
    rw [gsh_own] at HPT
    clear HPB
    go_upto_region 8 with (first | ((with_reducible refine wpList_ldK ?_ (.tmp 4) ?_ kb 0 ?_ k HKR3.out ?_); rfl; rfl; rfl) | ((with_reducible refine wpList_ldE ?_ (.tmp 5) ?_ (kb + 1) 0 ?_ v HER3.out ?_); rfl; rfl; rfl) | (go_at_call 36; (with_reducible refine HPT.out.mono ?_); rintro e w4 ⟨rfl, hn4⟩; have HN4 := hide hn4; clear hn4))
    go_wp2
    go_ret
    refine ⟨by rw [← HBO.out]; rfl, ?_⟩
    unfold putF
    rw [← HBO.out, if_neg (by decide)]
    refine IxN.from HBF.out (HX3.out.step HT.out (f' := upd f k (some v)) ?_ (Nat.le_succ P) (fun j hj => gsh_else f k _ hj))
    rw [gsh_upd]
    exact HN4.out
end
end TX
end Go.Proofs.Ytdigjpddmfolgaa

/- The index: Mark. -/
namespace Go.Proofs.Ytdigjpddmfolgaa
set_option linter.unusedVariables false
set_option linter.unusedSimpArgs false
namespace TX
set_option maxRecDepth 100000
set_option maxHeartbeats 8000000
open Go.RowKit Go.Sort

/-- A map in which an entry has another mark. -/
def markF (f : KY → Option EN) (k : KY) (ep : Int) : KY → Option EN := match f k with
  | none => f
  | some e => if e.ep = ep then f else upd f k (some ⟨e.sg, e.of, e.sz, ep⟩)
def markB (f : KY → Option EN) (k : KY) (ep : Int) : Bool := match f k with
  | none => false
  | some e => !decide (e.ep = ep)
section
variable {w : World} {x : Nat} {L : List Tab} {f : KY → Option EN} {P : Nat}
theorem EB.mark {w : World} {b : Nat} {e : EN} (h : EB w b e) (ep : Int) : EB (w.setCell ⟨b, 3, none⟩ (.int .u32 ep)) b ⟨e.sg, e.of, e.sz, ep⟩ := Blk.set h 3 (.int .u32 ep)
theorem EB.cell3 {w : World} {b : Nat} {e : EN} (h : EB w b e) : w.cell? ⟨b, 3, none⟩ = some (.int .u32 e.ep) := by rw [Blk.cell h]; rfl
theorem shard_grown (h : IxL w x 16 L f P) (k : KY) {t : Tab} (ht : L[sh k]? = some t) : Hid (∀ d os, Calls Try.prog 34 #[.pointer (some ⟨x, 0, none⟩), kV k] (grow (redrawn w d) os) fun e w' => e = .returned (ptrV t) ∧ Below (grow (redrawn w d) os).heap.size (grow (redrawn w d) os) w') := hide (fun d os => shard_any (h.below (below_regrown w d os)) k ht)
theorem mark_ix (h : IxL w x 16 L f P) (hP : P < 1099511627776) (k : KY) (ep : Int) : Calls Try.prog 29 #[.pointer (some ⟨x, 0, none⟩), kV k, .int .u32 ep] w fun e w' => e = .returned (.bool (markB f k ep)) ∧ IxN w w' x L (markF f k ep) (P + 1) := by
  obtain ⟨t, ht⟩ := h.shard k
  have HH := hide h
  have HT := hide ht
  have hz0 := zero_E
  have HPB := hide hP
  clear h ht hP
  go_enter Try.func29, Try.ntmps29
  go_upto_region 1 with fail
  refine name_world (fun W => Below w.heap.size w W ∧ KB W w.heap.size k) ⟨below_alloc w _, KB.made w k⟩ ?_
  rintro W ⟨hB, hK⟩
  have HB := hide hB
  have HX := hide (HH.out.below hB)
  obtain ⟨kb, hkb⟩ : ∃ kb, kb = w.heap.size := ⟨_, rfl⟩
  rw [← hkb] at hK ⊢
  have HK := hide hK
  have HKR : Hid (W.rangeAt kb 0 (kC k)) := hide hK.rng
  have HG := hide (get_ix HX.out k)
  unfold optV at HG
  obtain ⟨u, hu⟩ : ∃ u, u = (f k).getD eZ := ⟨_, rfl⟩
  obtain ⟨bo, hbo⟩ : ∃ bo, bo = (f k).isSome := ⟨_, rfl⟩
  rw [← hu, ← hbo] at HG
  have HU := hide hu
  have HBO := hide hbo
  have HE0 : Hid (∀ w5 : World, EB (w5.alloc (.cells (eA eZ) ET)) w5.heap.size eZ) := hide (fun w5 => EB.made w5 eZ)
  clear hB hK hkb hu hbo
  go_upto_region 2 with (first | ((with_reducible refine wpList_ldK ?_ (.tmp 4) ?_ kb 0 ?_ k HKR.out ?_); rfl; rfl; rfl) | (go_at_call 18; (with_reducible refine HG.out.mono ?_); rintro e w2 ⟨rfl, hb2⟩; have HB2 := hide hb2; have HE5 := hide (HE0.out w2); clear hb2) | ((with_reducible refine wpList_stEB ?_ (.tmp 7) (.tmp 13) ?_ w2.heap.size ?_ eZ u ?_ HE5.out ?_); rfl; rfl; rfl; rfl; intro w3 h3 hg3))
  have hB3 : Below W.heap.size W w3 := (HB2.out.trans ((below_alloc w2 _).mono HB2.out.size)).trans (below_grownBy hg3.out HB2.out.size (by have := HB2.out.size; simp; omega))
  have HX3 := hide (HX.out.below hB3)
  have HK3 := hide (HK.out.below hB3)
  have HBF := hide (HB.out.trans (hB3.mono HB.out.size))
  have HBZ : Hid (w.heap.size ≤ w2.heap.size) := hide (Nat.le_trans HB.out.size HB2.out.size)
  obtain ⟨b8, hb8⟩ : ∃ b, b = w2.heap.size := ⟨_, rfl⟩
  rw [← hb8] at h3 HBZ ⊢
  have HE3 := hide h3.out
  clear hB3 h3 hg3 HB2 HE0 HE5 HX HK HKR HG hz0 hb8 HB
  cases bo with
  | false =>
    go_wp2
    go_ret
    have hn : f k = none := by have := HBO.out; cases hf : f k with | none => rfl | some v => rw [hf] at this; cases this
    refine ⟨by unfold markB; rw [hn]; rfl, ?_⟩
    unfold markF
    rw [hn]
    exact (HH.out.more (Nat.le_succ P)).nBelow HBF.out
  | true =>
    have cE := HE3.out.cell3
    have g3 := Blk.frozen HE3.out 3
    have hf : f k = some u := by
      have h1 := HBO.out
      have h2 := HU.out
      cases hf : f k with
      | none => rw [hf] at h1; cases h1
      | some v => rw [hf] at h2; rw [h2]; rfl
    have HF := hide hf
    clear hf HBO HU
    by_cases hq : u.ep = ep
    · have hq1 : (u.ep == ep) = true := by simpa using hq
      have HQ := hide hq
      go_wp2
      go_ret
      refine ⟨by unfold markB; rw [HF.out]; simp [HQ.out], ?_⟩
      unfold markF
      rw [HF.out]
      simp only [HQ.out, if_true]
      exact (HH.out.more (Nat.le_succ P)).nBelow HBF.out
    · have hq1 : (u.ep == ep) = false := by simpa using hq
      have HQ := hide hq
      clear hq
      go_upto_region 5 with fail
      refine name_world (fun W1 => IxL W1 x 16 L f P ∧ KB W1 kb k ∧ EB W1 b8 ⟨u.sg, u.of, u.sz, ep⟩ ∧ Below w.heap.size w W1) ?_ ?_
      · have hne : b8 ≠ kb := fun e => by
          have h1 := HE3.out
          rw [e] at h1
          exact blk_ne h1 HK3.out (by decide) rfl
        exact ⟨HX3.out.same (fun b hb => heap_setCell_other _ _ _ _ (fun e => HX3.out.notB HE3.out (by decide) (by decide) (by decide) (by have e2 : b = b8 := e; rw [← e2]; exact hb))), (Blk.setOther HK3.out _ _ (Ne.symm hne)), HE3.out.mark ep, HBF.out.trans (below_grownBy (grownBy_set _ _ _ _) HBZ.out HBF.out.size)⟩
      rintro W1 ⟨hx, hk, he, hb⟩
      have HX4 := hide hx
      have HKR4 : Hid (∀ d os, (grow (redrawn W1 d) os).rangeAt kb 0 (kC k)) := hide (range_regrown hk.rng)
      have HER4 : Hid (∀ d os, (grow (redrawn W1 d) os).rangeAt b8 0 (eC ⟨u.sg, u.of, u.sz, ep⟩)) := hide (range_regrown he.rng)
      have HB4 := hide hb
      have HS := shard_grown hx k HT.out
      clear hx hk he hb cE g3 hq1 HX3 HK3 HE3 HBF HBZ
      unfold ptrV at HS
      refine wp_region_quiet_tail 5 (by kernel_rfl) (by kernel_rfl) ?_
      simp only [List.take_succ_cons, List.take_zero, List.drop_succ_cons, List.drop_zero]
      quiet_step (fail)
      refine wpQuiet_val (kV k) rfl (fun w0 hw => ?_) ?_
      · obtain ⟨p0, rfl⟩ := hw
        exact run_loadO rfl rfl (run_ldK (HKR4.out _ _))
      quiet_step (exact Calls.regrown_of (HS.out _ _))
      refine wpQuiet_val (kV k) rfl (fun w0 hw => ?_) ?_
      · obtain ⟨p0, rfl⟩ := hw
        exact run_loadO rfl rfl (run_ldK (HKR4.out _ _))
      refine wpQuiet_val (eV ⟨u.sg, u.of, u.sz, ep⟩) rfl (fun w0 hw => ?_) ?_
      · obtain ⟨p0, rfl⟩ := hw
        exact run_loadO rfl rfl (run_ldE (HER4.out _ _))
      refine wpQuiet_nil ?_
      intro w5 hw5
      have hB5 : RowKit.Below W1.heap.size W1 w5 := below_of hw5
      have HX5 := hide (HX4.out.below hB5)
      have HBG := hide (HB4.out.trans (hB5.mono HB4.out.size))
      have HPT := hide (tput_anyw (HX5.out.tab _ t HT.out) hash_is HPB.out k ⟨u.sg, u.of, u.sz, ep⟩)
      rw [gsh_own] at HPT
      clear hw5 hB5 HS HKR4 HER4 HX4 HB4
      go_wp2_with (go_at_call 36; (with_reducible refine HPT.out.mono ?_); rintro e w6 ⟨rfl, hn4⟩; have HN4 := hide hn4; clear hn4)
      go_ret
      refine ⟨by unfold markB; rw [HF.out]; simp [HQ.out], ?_⟩
      unfold markF
      rw [HF.out]
      simp only [HQ.out, if_false]
      refine IxN.from HBG.out (HX5.out.step HT.out (f' := upd f k (some ⟨u.sg, u.of, u.sz, ep⟩)) ?_ (Nat.le_succ P) (fun j hj => gsh_else f k _ hj))
      rw [gsh_upd]
      exact HN4.out
end
end TX
end Go.Proofs.Ytdigjpddmfolgaa

/- The index: Move. -/
namespace Go.Proofs.Ytdigjpddmfolgaa
set_option linter.unusedVariables false
set_option linter.unusedSimpArgs false
namespace TX
set_option maxRecDepth 100000
set_option maxHeartbeats 8000000
open Go.RowKit Go.Sort

abbrev PLT : TypeId := 34
structure PL where
  sg : Int
  of : Int
def plC (p : PL) : List Value := [.int .i64 p.sg, .int .i64 p.of]
def plA (p : PL) : Array Value := (plC p).toArray
abbrev plV (p : PL) : Value := .agg (plA p)
def eqP (p q : PL) : Bool := p.sg == q.sg && p.of == q.of
def EN.pl (e : EN) : PL := ⟨e.sg, e.of⟩
theorem plC_one (p : PL) : ∀ v ∈ plC p, v.oneCell' = true := by
  intro v hv
  simp only [plC, List.mem_cons, List.not_mem_nil, or_false] at hv
  rcases hv with rfl | rfl <;> rfl
abbrev PLB (w : World) (b : Nat) (p : PL) : Prop := Blk w b (plA p) PLT
theorem iPL : (Try.prog.info? PLT).map (·.size) = some 2 := by kernel_rfl
theorem run_ldP {w : World} {b o : Nat} {p : PL} (h : w.rangeAt b o (plC p)) : (Instr.loadAt PLT (.pointer (some ⟨b, o, none⟩))).run Try.prog w = .ok (plV p) w :=
  run_loadAt_mid (P := Try.prog) w b o PLT (plC p) _ h Try.underlying34 rfl iPL
theorem run_stP {w : World} {b : Nat} {e : EN} (h : EB w b e) (p : PL) : (Instr.storeAt PLT (.pointer (some ⟨b, 0, none⟩)) (plV p)).run Try.prog w = .ok () (w.setCells b 0 (plC p)) :=
  run_storeAt_mid (P := Try.prog) w b 0 PLT (plA p) (there_row h 0 _ (by rw [eA_size]; simp [plA, plC])) iPL (all_oneCell_toArray (plC_one p))
theorem EB.place {w : World} {b : Nat} {e : EN} (h : EB w b e) : w.rangeAt b 0 (plC e.pl) := fun j v hj => by
  have h2 := h.rng j v
  refine h2 ?_
  match j, hj with
  | 0, hj => exact hj
  | 1, hj => exact hj
theorem EB.move {w : World} {b : Nat} {e : EN} (h : EB w b e) (p : PL) : EB (w.setCells b 0 (plC p)) b ⟨p.sg, p.of, e.sz, e.ep⟩ ∧ w.grownBy (w.setCells b 0 (plC p)) (some b) := by
  have h1 : EB ((w.setCell ⟨b, 0, none⟩ (.int .i64 p.sg)).setCell ⟨b, 1, none⟩ (.int .i64 p.of)) b ⟨p.sg, p.of, e.sz, e.ep⟩ := Blk.set (Blk.set h 0 (.int .i64 p.sg)) 1 (.int .i64 p.of)
  exact ⟨h1, grownBy_trans (grownBy_set _ _ _ _) (grownBy_set _ _ _ _)⟩
theorem guardP : Try.prog.eqGuardType Try.prog.depth PLT = false := by kernel_rfl
theorem underP : Try.prog.underlying PLT = some (.struct (Try.prog.fieldsOf PLT)) := by kernel_rfl
theorem stoodP : Try.prog.stoodInHeld PLT = false := by kernel_rfl
theorem partP0 (p : PL) (w : World) : (part 3 (plA p) 0).run Try.prog w = .ok (.int .i64 p.sg) w := by
  have h1 : (isAgg 3).run Try.prog w = .ok false w := by kernel_rfl
  simp [part, Sem.run_bind, h1, Result.andThen_ok, plA, plC]
theorem partP1 (p : PL) (w : World) : (part 3 (plA p) 1).run Try.prog w = .ok (.int .i64 p.of) w := by
  have h1 : (isAgg 3).run Try.prog w = .ok false w := by kernel_rfl
  simp [part, Sem.run_bind, h1, Result.andThen_ok, plA, plC]
theorem equalP (p q : PL) (w : World) : (Op.equalIn 10000 PLT (plV p) (plV q)).run Try.prog w = .ok (eqP p q) w := by
  rw [run_equalIn_agg w 9999 _ _ _ underP stoodP]
  simp only [Program.fieldsOf, Try.underlying34]
  have e0 := fun p W => partP0 p W
  have e1 := fun p W => partP1 p W
  have q1 := fun W (n m : Int) => run_equalIn_int (P := Try.prog) W 9998 3 .i64 .i64 n m Try.underlying3
  by_cases h : p.sg = q.sg
  · have hb : (p.sg == q.sg) = true := by simpa using h
    simp [Op.eqFields, Sem.run_bind, e0, e1, q1, Result.andThen, eqP, hb]
    by_cases h2 : p.of = q.of <;> simp [h2]
  · have hb : (p.sg == q.sg) = false := by simpa using h
    simp [Op.eqFields, Sem.run_bind, e0, e1, q1, Result.andThen, eqP, hb]
theorem run_neqP {op : Oper} {ev : Operand → Value} {x y : Operand} {u : TypeId} {p q : PL} (ho : op.op = .binOp .neq PLT x y u) (hx : ev x = plV p) (hy : ev y = plV q) (w : World) : (execOp ev op).run Try.prog w = .ok (.value (.bool (!eqP p q))) w := by
  simp only [execOp, ho, hx, hy, Sem.run_bind, run_eqGuard_agg (P := Try.prog) w .neq PLT x y _ _ guardP, Result.andThen_ok, run_neq_struct, equalP p q, Sem.run_pure]
theorem wpList_valW {P : Program} {ops : Array Oper} {rest : List Oper} {op : Oper} {a : Act} {w : World} {Q : Exit → Act → World → Prop} (v : Value) (hg : Region.wanted op (yielded ops a.tmps) = true) (hr : (execOp a.eval op).run P w = .ok (.value v) w) (h : wpList P ops Q rest (a.put op.dst v) w) : wpList P ops Q (op :: rest) a w := by
  refine wpList_step fun K hK => ?_
  rw [if_pos hg]
  unfold Oper.wp
  rw [hr]
  exact hK _ _ h
section
variable {ops : Array Oper} {rest : List Oper} {op : Oper} {a : Act} {w : World} {Q : Exit → Act → World → Prop}
theorem wpList_stP (hgd : op.guard = none) (x y : Operand) (ho : op.op = .store PLT x y) (b : Nat) (hx : a.eval x = .pointer (some ⟨b, 0, none⟩)) (e : EN) (p : PL) (hy : a.eval y = plV p) (h : EB w b e)
    (hk : ∀ w', Hid (EB w' b ⟨p.sg, p.of, e.sz, e.ep⟩) → Hid (w.grownBy w' (some b)) → wpList Try.prog ops Q rest (a.put op.dst undef) w') : wpList Try.prog ops Q (op :: rest) a w := by
  refine wpList_skip (w.setCells b 0 (plC p)) hgd ?_ (hk _ (hide (h.move p).1) (hide (h.move p).2))
  have := run_stP h p
  simp only [execOp, ho, hx, hy, Sem.run_bind, this, Result.andThen_ok, Sem.run_pure]
end
/-- A map in which an entry lies elsewhere. -/
def moveF (f : KY → Option EN) (k : KY) (p q : PL) : KY → Option EN := match f k with
  | none => f
  | some e => if eqP e.pl p then upd f k (some ⟨q.sg, q.of, e.sz, e.ep⟩) else f
def moveB (f : KY → Option EN) (k : KY) (p : PL) : Bool := match f k with
  | none => false
  | some e => eqP e.pl p
section
variable {w : World} {x : Nat} {L : List Tab} {f : KY → Option EN} {P : Nat}
theorem threeBox (w : World) (k : KY) (p q : PL) : Below w.heap.size w (((w.alloc (.cells (kA k) KT)).alloc (.cells (plA p) PLT)).alloc (.cells (plA q) PLT)) ∧ KB (((w.alloc (.cells (kA k) KT)).alloc (.cells (plA p) PLT)).alloc (.cells (plA q) PLT)) w.heap.size k ∧ PLB (((w.alloc (.cells (kA k) KT)).alloc (.cells (plA p) PLT)).alloc (.cells (plA q) PLT)) (w.heap.size + 1) p ∧ PLB (((w.alloc (.cells (kA k) KT)).alloc (.cells (plA p) PLT)).alloc (.cells (plA q) PLT)) (w.heap.size + 2) q := by
  have h1 : PLB ((w.alloc (.cells (kA k) KT)).alloc (.cells (plA p) PLT)) (w.heap.size + 1) p := by
    have := Blk.made (w.alloc (.cells (kA k) KT)) (plA p) PLT
    simpa using this
  have h2 := Blk.made ((w.alloc (.cells (kA k) KT)).alloc (.cells (plA p) PLT)) (plA q) PLT
  exact ⟨((below_alloc w _).alloc (by simp) _).alloc (by simp; omega) _, ((KB.made w k).alloc _).alloc _, Blk.alloc h1 _, by simpa using h2⟩
theorem move_ix (h : IxL w x 16 L f P) (hP : P < 1099511627776) (k : KY) (p q : PL) : Calls Try.prog 31 #[.pointer (some ⟨x, 0, none⟩), kV k, plV p, plV q] w fun e w' => e = .returned (.bool (moveB f k p)) ∧ IxN w w' x L (moveF f k p q) (P + 1) := by
  obtain ⟨t, ht⟩ := h.shard k
  have HH := hide h
  have HT := hide ht
  have hz0 := zero_E
  have HPB := hide hP
  clear h ht hP
  go_enter Try.func31, Try.ntmps31
  go_upto_region 1 with fail
  refine name_world (fun W => Below w.heap.size w W ∧ KB W w.heap.size k ∧ PLB W (w.heap.size + 1) p ∧ PLB W (w.heap.size + 2) q) (threeBox w k p q) ?_
  rintro W ⟨hB, hK, hF, hT⟩
  have HB := hide hB
  have HX := hide (HH.out.below hB)
  obtain ⟨kb, hkb⟩ : ∃ kb, kb = w.heap.size := ⟨_, rfl⟩
  rw [← hkb] at hK hF hT ⊢
  have HK := hide hK
  have HPF := hide hF
  have HPT := hide hT
  have HKR : Hid (W.rangeAt kb 0 (kC k)) := hide hK.rng
  have HG := hide (get_ix HX.out k)
  unfold optV at HG
  obtain ⟨u, hu⟩ : ∃ u, u = (f k).getD eZ := ⟨_, rfl⟩
  obtain ⟨bo, hbo⟩ : ∃ bo, bo = (f k).isSome := ⟨_, rfl⟩
  rw [← hu, ← hbo] at HG
  have HU := hide hu
  have HBO := hide hbo
  have HE0 : Hid (∀ w5 : World, EB (w5.alloc (.cells (eA eZ) ET)) w5.heap.size eZ) := hide (fun w5 => EB.made w5 eZ)
  clear hB hK hkb hu hbo hF hT
  go_upto_region 2 with (first | ((with_reducible refine wpList_ldK ?_ (.tmp 5) ?_ kb 0 ?_ k HKR.out ?_); rfl; rfl; rfl) | (go_at_call 18; (with_reducible refine HG.out.mono ?_); rintro e w2 ⟨rfl, hb2⟩; have HB2 := hide hb2; have HE5 := hide (HE0.out w2); clear hb2) | ((with_reducible refine wpList_stEB ?_ (.tmp 9) (.tmp 15) ?_ w2.heap.size ?_ eZ u ?_ HE5.out ?_); rfl; rfl; rfl; rfl; intro w3 h3 hg3))
  have hB3 : Below W.heap.size W w3 := (HB2.out.trans ((below_alloc w2 _).mono HB2.out.size)).trans (below_grownBy hg3.out HB2.out.size (by have := HB2.out.size; simp; omega))
  have HX3 := hide (HX.out.below hB3)
  have HK3 := hide (HK.out.below hB3)
  have HF3 : Hid (PLB w3 (kb + 1) p) := hide (Blk.below HPF.out hB3 (Blk.lt HPF.out))
  have HT3 : Hid (PLB w3 (kb + 2) q) := hide (Blk.below HPT.out hB3 (Blk.lt HPT.out))
  have HBF := hide (HB.out.trans (hB3.mono HB.out.size))
  have HBZ : Hid (w.heap.size ≤ w2.heap.size) := hide (Nat.le_trans HB.out.size HB2.out.size)
  have HN8 : Hid (kb + 2 < w2.heap.size) := hide (Nat.lt_of_lt_of_le (Blk.lt HPT.out) HB2.out.size)
  obtain ⟨b8, hb8⟩ : ∃ b, b = w2.heap.size := ⟨_, rfl⟩
  rw [← hb8] at h3 HBZ HN8 ⊢
  have HE3 := hide h3.out
  clear hB3 h3 hg3 HB2 HE0 HE5 HX HK HKR HG hz0 hb8 HB HPF HPT
  cases bo with
  | false =>
    go_wp2
    go_ret
    have hn : f k = none := by have := HBO.out; cases hf : f k with | none => rfl | some v => rw [hf] at this; cases this
    refine ⟨by unfold moveB; rw [hn]; rfl, ?_⟩
    unfold moveF
    rw [hn]
    exact (HH.out.more (Nat.le_succ P)).nBelow HBF.out
  | true =>
    have HR1 : Hid (w3.rangeAt b8 0 (plC u.pl)) := hide HE3.out.place
    have HR2 : Hid (w3.rangeAt (kb + 1) 0 (plC p)) := hide (Blk.range HF3.out)
    have HR3 : Hid (w3.rangeAt (kb + 2) 0 (plC q)) := hide (Blk.range HT3.out)
    have hf : f k = some u := by
      have h1 := HBO.out
      have h2 := HU.out
      cases hf : f k with
      | none => rw [hf] at h1; cases h1
      | some v => rw [hf] at h2; rw [h2]; rfl
    have HF := hide hf
    clear hf HBO HU
    obtain ⟨eq, heq⟩ : ∃ eq, eq = eqP u.pl p := ⟨_, rfl⟩
    have HQ := hide heq
    have HNE : Hid (∀ (op : Oper) (ev : Operand → Value) (x y : Operand) (t : TypeId), op.op = .binOp .neq PLT x y t → ev x = plV u.pl → ev y = plV p → (execOp ev op).run Try.prog w3 = .ok (.value (.bool (!eq))) w3) := hide (fun op ev x y t h1 h2 h3 => by rw [heq]; exact run_neqP h1 h2 h3 w3)
    clear heq
    cases eq with
    | false =>
      go_wp2_with (first | ((with_reducible refine wpList_valW (plV u.pl) ?_ (run_loadO (x := .tmp 20) (p := .pointer (some ⟨b8, 0, none⟩)) rfl ?_ (run_ldP HR1.out)) ?_); rfl; rfl) | ((with_reducible refine wpList_valW (plV p) ?_ (run_loadO (x := .tmp 6) (p := .pointer (some ⟨kb + 1, 0, none⟩)) rfl ?_ (run_ldP HR2.out)) ?_); rfl; rfl) | ((with_reducible refine wpList_valW (.bool true) ?_ (HNE.out _ _ (.tmp 21) (.tmp 22) PLT ?_ ?_ ?_) ?_); rfl; rfl; rfl; rfl))
      go_ret
      refine ⟨by unfold moveB; rw [HF.out]; simp [← HQ.out], ?_⟩
      unfold moveF
      rw [HF.out]
      simp only [← HQ.out]
      exact (HH.out.more (Nat.le_succ P)).nBelow HBF.out
    | true =>
      go_upto_region 4 with (first | ((with_reducible refine wpList_valW (plV u.pl) ?_ (run_loadO (x := .tmp 20) (p := .pointer (some ⟨b8, 0, none⟩)) rfl ?_ (run_ldP HR1.out)) ?_); rfl; rfl) | ((with_reducible refine wpList_valW (plV p) ?_ (run_loadO (x := .tmp 6) (p := .pointer (some ⟨kb + 1, 0, none⟩)) rfl ?_ (run_ldP HR2.out)) ?_); rfl; rfl) | ((with_reducible refine wpList_valW (.bool false) ?_ (HNE.out _ _ (.tmp 21) (.tmp 22) PLT ?_ ?_ ?_) ?_); rfl; rfl; rfl; rfl))
      go_upto_region 5 with (first | ((with_reducible refine wpList_valW (plV q) ?_ (run_loadO (x := .tmp 7) (p := .pointer (some ⟨kb + 2, 0, none⟩)) rfl ?_ (run_ldP HR3.out)) ?_); rfl; rfl) | ((with_reducible refine wpList_stP ?_ (.tmp 26) (.tmp 25) ?_ b8 ?_ u q ?_ HE3.out ?_); rfl; rfl; rfl; rfl; intro W1 h1 hg1))
      have hx1 : IxL W1 x 16 L f P := HX3.out.same (fun b hb => hg1.out.block b (HX3.out.lt hb) (fun e => HX3.out.notB HE3.out (by decide) (by decide) (by decide) (by have e2 := Option.some.inj e; rw [← e2]; exact hb)))
      have HX4 := hide hx1
      have hk1 : KB W1 kb k := Blk.grown HK3.out hg1.out (fun e => by have := HN8.out; have := Option.some.inj e; omega)
      have HKR4 : Hid (∀ d os, (grow (redrawn W1 d) os).rangeAt kb 0 (kC k)) := hide (range_regrown hk1.rng)
      have HER4 : Hid (∀ d os, (grow (redrawn W1 d) os).rangeAt b8 0 (eC ⟨q.sg, q.of, u.sz, u.ep⟩)) := hide (range_regrown h1.out.rng)
      have HB4 := hide (HBF.out.trans (below_grownBy hg1.out HBZ.out HBF.out.size))
      have HS := shard_grown hx1 k HT.out
      clear hx1 hk1 h1 hg1 HX3 HK3 HE3 HBF HBZ HNE HR1 HR2 HR3 HN8 HF3 HT3
      unfold ptrV at HS
      refine wp_region_quiet_tail 5 (by kernel_rfl) (by kernel_rfl) ?_
      simp only [List.take_succ_cons, List.take_zero, List.drop_succ_cons, List.drop_zero]
      quiet_step (fail)
      refine wpQuiet_val (kV k) rfl (fun w0 hw => ?_) ?_
      · obtain ⟨p0, rfl⟩ := hw
        exact run_loadO rfl rfl (run_ldK (HKR4.out _ _))
      quiet_step (exact Calls.regrown_of (HS.out _ _))
      refine wpQuiet_val (kV k) rfl (fun w0 hw => ?_) ?_
      · obtain ⟨p0, rfl⟩ := hw
        exact run_loadO rfl rfl (run_ldK (HKR4.out _ _))
      refine wpQuiet_val (eV ⟨q.sg, q.of, u.sz, u.ep⟩) rfl (fun w0 hw => ?_) ?_
      · obtain ⟨p0, rfl⟩ := hw
        exact run_loadO rfl rfl (run_ldE (HER4.out _ _))
      refine wpQuiet_nil ?_
      intro w5 hw5
      have hB5 : RowKit.Below W1.heap.size W1 w5 := below_of hw5
      have HX5 := hide (HX4.out.below hB5)
      have HBG := hide (HB4.out.trans (hB5.mono HB4.out.size))
      have HPT := hide (tput_anyw (HX5.out.tab _ t HT.out) hash_is HPB.out k ⟨q.sg, q.of, u.sz, u.ep⟩)
      rw [gsh_own] at HPT
      clear hw5 hB5 HS HKR4 HER4 HX4 HB4
      go_wp2_with (go_at_call 36; (with_reducible refine HPT.out.mono ?_); rintro e w6 ⟨rfl, hn4⟩; have HN4 := hide hn4; clear hn4)
      go_ret
      refine ⟨by unfold moveB; rw [HF.out]; simp [← HQ.out], ?_⟩
      unfold moveF
      rw [HF.out]
      simp only [← HQ.out, if_true]
      refine IxN.from HBG.out (HX5.out.step HT.out (f' := upd f k (some ⟨q.sg, q.of, u.sz, u.ep⟩)) ?_ (Nat.le_succ P) (fun j hj => gsh_else f k _ hj))
      rw [gsh_upd]
      exact HN4.out
end
end TX
end Go.Proofs.Ytdigjpddmfolgaa
