/- A nil index: Get, Mark, Move, Next. -/
import Derived.Test.YtdigjpddmfolgaaISm
import Derived.Test.YtdigjpddmfolgaaICn
import Derived.Test.YtdigjpddmfolgaaXW
import Derived.Test.YtdigjpddmfolgaaIRn
namespace Go.Proofs.Ytdigjpddmfolgaa
set_option linter.unusedVariables false
set_option linter.unusedSimpArgs false
namespace TX
open Go.RowKit Go.Sort
set_option maxRecDepth 100000
set_option maxHeartbeats 8000000

theorem tget_nil (w : World) (k : KY) : Calls Try.prog 35 #[.pointer none, kV k] w (NoC w) := by
  have hz0 := zero_E
  have HN := hide (fun W => none_nil W)
  go_enter Try.func35, Try.ntmps35
  go_upto_region 2 with fail
  refine name_world (fun W => Below w.heap.size w W ∧ EB W (w.heap.size + 1) eZ ∧ EB W (w.heap.size + 1 + 1) eZ) ⟨((below_alloc w _).alloc (by simp) _).alloc (by simp; omega) _, (EB.made' (by simp) eZ).alloc _, EB.made' (by simp) eZ⟩ ?_
  rintro W ⟨hB, hE, hE2⟩
  obtain ⟨kb, hkb⟩ : ∃ kb, kb = w.heap.size := ⟨_, rfl⟩
  rw [← hkb] at hE hE2 ⊢
  have HKB := hide hkb
  have HB := hide hB
  have HE := hide hE
  have HE2 : Hid (W.rangeAt (kb + 1 + 1) 0 (eC eZ)) := hide hE2.rng
  have HNW := hide (HN.out W)
  clear hB hE hE2 hkb hz0 HN
  go_wp2_with (first | (go_at_call 47; refine HNW.out.mono ?_; rintro e w' ⟨rfl, hw⟩; rw [hw]; clear hw) | ((with_reducible refine wpList_ldE ?_ (.tmp 6) ?_ (kb + 1 + 1) 0 ?_ eZ HE2.out ?_); rfl; rfl; rfl) | ((with_reducible refine wpList_stEB ?_ (.tmp 4) (.tmp 12) ?_ (kb + 1) ?_ eZ eZ ?_ HE.out ?_); rfl; rfl; rfl; rfl; intro w4 h4 hg4))
  refine ⟨rfl, _, results_cell_tmp (p := 4) (q := 5) (ty := ET) rfl _ _ ⟨kb + 1, 0, none⟩ rfl (eV eZ) (.bool false) rfl (loadE h4.out.rng), rfl, ?_⟩
  exact HB.out.trans (below_grownBy hg4.out (by have := HKB.out; omega) HB.out.size)
theorem get_nil (w : World) (k : KY) : Calls Try.prog 18 #[.pointer none, kV k] w (NoC w) := by
  have hz0 := zero_E
  go_enter Try.func18, Try.ntmps18
  go_upto_region 1 with fail
  refine name_world (fun W => Below w.heap.size w W ∧ KB W w.heap.size k ∧ EB W (w.heap.size + 1) eZ) ⟨(below_alloc w _).alloc (by simp) _, (KB.made w k).alloc _, EB.made' (by simp) eZ⟩ ?_
  rintro W ⟨hB, hK, hE⟩
  have HB := hide hB
  obtain ⟨kb, hkb⟩ : ∃ kb, kb = w.heap.size := ⟨_, rfl⟩
  rw [← hkb] at hK hE ⊢
  have HKB := hide hkb
  have HK : Hid (∀ d os, (grow (redrawn W d) os).rangeAt kb 0 (kC k)) := hide (range_regrown hK.rng)
  have HE := hide hE
  have HS : Hid (∀ d os, Calls Try.prog 34 #[.pointer none, kV k] (grow (redrawn W d) os) fun e w' => e = .returned (.pointer none) ∧ Below (grow (redrawn W d) os).heap.size (grow (redrawn W d) os) w') := hide (fun d os => shard_nil _ k)
  have HG : Hid (∀ d os, Calls Try.prog 35 #[.pointer none, kV k] (grow (redrawn W d) os) fun e w' => e = .returned (.tuple #[eV eZ, .bool false]) ∧ Below (grow (redrawn W d) os).heap.size (grow (redrawn W d) os) w') := hide (fun d os => tget_nil _ k)
  clear hB hK hE hkb hz0
  refine wp_region_quiet_tail 7 (by kernel_rfl) (by kernel_rfl) ?_
  simp only [List.take_succ_cons, List.take_zero, List.drop_succ_cons, List.drop_zero]
  quiet_step (fail)
  refine wpQuiet_val (kV k) rfl (fun w0 hw => ?_) ?_
  · obtain ⟨p0, rfl⟩ := hw
    exact run_loadO rfl rfl (run_ldK (HK.out _ _))
  quiet_step (exact Calls.regrown_of (HS.out _ _))
  refine wpQuiet_val (kV k) rfl (fun w0 hw => ?_) ?_
  · obtain ⟨p0, rfl⟩ := hw
    exact run_loadO rfl rfl (run_ldK (HK.out _ _))
  quiet_step (exact Calls.regrown_of (HG.out _ _))
  iterate 2 quiet_step (fail)
  refine wpQuiet_nil ?_
  intro w1 hw1
  have hB1 : Below W.heap.size W w1 := below_of hw1
  have HB1 := hide hB1
  have HE1 := hide (HE.out.below hB1)
  clear hw1 hB1 HS HG HK HE
  go_wp2_with ((with_reducible refine wpList_stEB ?_ (.tmp 4) (.tmp 11) ?_ (kb + 1) ?_ eZ eZ ?_ HE1.out ?_); rfl; rfl; rfl; rfl; intro w4 h4 hg4)
  refine ⟨rfl, _, results_cell_tmp (p := 4) (q := 5) (ty := ET) rfl _ _ ⟨kb + 1, 0, none⟩ rfl (eV eZ) (.bool false) rfl (loadE h4.out.rng), rfl, ?_⟩
  have hs1 := HB.out.size
  have hs2 := HB1.out.size
  exact (HB.out.trans (HB1.out.mono hs1)).trans (below_grownBy hg4.out (by have := HKB.out; omega) (by omega))
theorem mark_nil (w : World) (k : KY) (ep : Int) : Calls Try.prog 29 #[.pointer none, kV k, .int .u32 ep] w fun e w' => e = .returned (.bool false) ∧ Below w.heap.size w w' := by
  have hz0 := zero_E
  go_enter Try.func29, Try.ntmps29
  go_upto_region 1 with fail
  refine name_world (fun W => Below w.heap.size w W ∧ KB W w.heap.size k) ⟨below_alloc w _, KB.made w k⟩ ?_
  rintro W ⟨hB, hK⟩
  have HB := hide hB
  obtain ⟨kb, hkb⟩ : ∃ kb, kb = w.heap.size := ⟨_, rfl⟩
  rw [← hkb] at hK ⊢
  have HKR : Hid (W.rangeAt kb 0 (kC k)) := hide hK.rng
  have HG := hide (get_nil W k)
  unfold NoC at HG
  have HE0 : Hid (∀ w5 : World, EB (w5.alloc (.cells (eA eZ) ET)) w5.heap.size eZ) := hide (fun w5 => EB.made w5 eZ)
  clear hB hK hkb
  go_upto_region 2 with (first | ((with_reducible refine wpList_ldK ?_ (.tmp 4) ?_ kb 0 ?_ k HKR.out ?_); rfl; rfl; rfl) | (go_at_call 18; (with_reducible refine HG.out.mono ?_); rintro e w2 ⟨rfl, hb2⟩; have HB2 := hide hb2; have HE5 := hide (HE0.out w2); clear hb2) | ((with_reducible refine wpList_stEB ?_ (.tmp 7) (.tmp 13) ?_ w2.heap.size ?_ eZ eZ ?_ HE5.out ?_); rfl; rfl; rfl; rfl; intro w3 h3 hg3))
  have hB3 : Below W.heap.size W w3 := (HB2.out.trans ((below_alloc w2 _).mono HB2.out.size)).trans (below_grownBy hg3.out HB2.out.size (by have := HB2.out.size; simp; omega))
  have HBF := hide (HB.out.trans (hB3.mono HB.out.size))
  clear hB3 h3 hg3 HB2 HE0 HE5 HKR HG hz0 HB
  go_wp2
  go_ret
  exact ⟨rfl, HBF.out⟩
theorem move_nil (w : World) (k : KY) (p q : PL) : Calls Try.prog 31 #[.pointer none, kV k, plV p, plV q] w fun e w' => e = .returned (.bool false) ∧ Below w.heap.size w w' := by
  have hz0 := zero_E
  go_enter Try.func31, Try.ntmps31
  go_upto_region 1 with fail
  refine name_world (fun W => Below w.heap.size w W ∧ KB W w.heap.size k) ⟨(threeBox w k p q).1, (threeBox w k p q).2.1⟩ ?_
  rintro W ⟨hB, hK⟩
  have HB := hide hB
  obtain ⟨kb, hkb⟩ : ∃ kb, kb = w.heap.size := ⟨_, rfl⟩
  rw [← hkb] at hK ⊢
  have HKR : Hid (W.rangeAt kb 0 (kC k)) := hide hK.rng
  have HG := hide (get_nil W k)
  unfold NoC at HG
  have HE0 : Hid (∀ w5 : World, EB (w5.alloc (.cells (eA eZ) ET)) w5.heap.size eZ) := hide (fun w5 => EB.made w5 eZ)
  clear hB hK hkb
  go_upto_region 2 with (first | ((with_reducible refine wpList_ldK ?_ (.tmp 5) ?_ kb 0 ?_ k HKR.out ?_); rfl; rfl; rfl) | (go_at_call 18; (with_reducible refine HG.out.mono ?_); rintro e w2 ⟨rfl, hb2⟩; have HB2 := hide hb2; have HE5 := hide (HE0.out w2); clear hb2) | ((with_reducible refine wpList_stEB ?_ (.tmp 9) (.tmp 15) ?_ w2.heap.size ?_ eZ eZ ?_ HE5.out ?_); rfl; rfl; rfl; rfl; intro w3 h3 hg3))
  have hB3 : Below W.heap.size W w3 := (HB2.out.trans ((below_alloc w2 _).mono HB2.out.size)).trans (below_grownBy hg3.out HB2.out.size (by have := HB2.out.size; simp; omega))
  have HBF := hide (HB.out.trans (hB3.mono HB.out.size))
  clear hB3 h3 hg3 HB2 HE0 HE5 HKR HG hz0 HB
  go_wp2
  go_ret
  exact ⟨rfl, HBF.out⟩
theorem next_nil (w : World) (aft : KY) (any : Bool) : Calls Try.prog 14 #[.pointer none, kV aft, .bool any] w (NxtC w aft any (fun _ => none)) := by
  have hzk := zero_KD
  go_enter Try.func14, Try.ntmps14
  go_upto_region 2 with fail
  refine name_world (fun W => NxA w w.heap.size aft any W) (nxA_made w aft any) ?_
  rintro W hA
  simp only [Nat.add_assoc, Nat.reduceAdd]
  obtain ⟨N, hN⟩ : ∃ N, N = w.heap.size := ⟨_, rfl⟩
  rw [← hN] at hA ⊢
  have HA := hide hA
  have HLB : Hid (W.rangeAt (N + 3) 0 (kdC kdZ)) := hide (Blk.range hA.lb)
  have HRB := hide hA.rb
  have HN := hide hN
  clear hA hN
  go_wp2_with (first | ((with_reducible refine wpList_ldKD ?_ (.tmp 8) ?_ (N + 3) 0 ?_ kdZ HLB.out ?_); rfl; rfl; rfl) | ((with_reducible refine wpList_stKD ?_ (.tmp 6) (.tmp 16) ?_ (N + 2) ?_ kdZ kdZ ?_ HRB.out ?_); rfl; rfl; rfl; rfl; intro w4 h4 hg4))
  refine ⟨rfl, _, results_cell_tmp (p := 6) (q := 7) (ty := KDT) rfl _ _ ⟨N + 2, 0, none⟩ rfl (kdV kdZ) (.bool false) rfl (loadKD h4.out), ⟨none, rfl, fun k e h => (by cases h)⟩, ?_⟩
  have hbel := HA.out.bel
  have hsz := HA.out.sz
  rw [HN.out] at hbel hg4 hsz
  exact hbel.trans (below_grownBy hg4.out (by omega) (by omega))
/-- An index, or none. -/
def IxQ (W : World) (pv : Value) (f : KY → Option EN) : Prop := (pv = .pointer none ∧ f = fun _ => none) ∨ ∃ x P L, pv = .pointer (some ⟨x, 0, none⟩) ∧ IxL W x 16 L f P
section
variable {W : World} {pv : Value} {f : KY → Option EN}
theorem IxQ.below {W' : World} (h : IxQ W pv f) (hb : Below W.heap.size W W') : IxQ W' pv f := by
  rcases h with h | ⟨x, P, L, h1, h2⟩
  · exact .inl h
  · exact .inr ⟨x, P, L, h1, h2.below hb⟩
theorem IxQ.get (h : IxQ W pv f) (k : KY) : Calls Try.prog 18 #[pv, kV k] W fun e w' => e = .returned (optV (f k)) ∧ Below W.heap.size W w' := by
  rcases h with ⟨rfl, rfl⟩ | ⟨x, P, L, rfl, h⟩
  · exact get_nil W k
  · exact get_ix h k
theorem IxQ.next (h : IxQ W pv f) (aft : KY) (any : Bool) : Calls Try.prog 14 #[pv, kV aft, .bool any] W (NxtC W aft any f) := by
  rcases h with ⟨rfl, rfl⟩ | ⟨x, P, L, rfl, h⟩
  · exact next_nil W aft any
  · cases any with
    | true => exact next_all W h aft
    | false => exact next_above W h aft
theorem IxQ.all (h : IxQ W pv f) {B : List KE} (hB : Maps B f) (hR : RisD B) (hBl : B.length ≤ 1099511627776) : Calls Try.prog 8 #[pv] W fun e w' => ∃ v, e = .returned v ∧ ItA w' v B ∧ Below W.heap.size W w' := by
  rcases h with ⟨rfl, rfl⟩ | ⟨x, P, L, rfl, h⟩
  · have : B = [] := ris_unique hB Maps.nil hR List.Pairwise.nil
    subst this
    exact all_nil W
  · exact (all_ix W h hB (by omega)).mono (fun e w' ⟨v, V, h1, h2, h3, h4, h5⟩ => ⟨v, h1, by rw [ris_unique hB h3 hR h4]; exact h2, h5⟩)
theorem IxQ.len (h : IxQ W pv f) {B : List KE} (hB : Maps B f) : Calls Try.prog 12 #[pv] W fun e w' => e = .returned (.int .i64 (B.length : Int)) ∧ Below W.heap.size W w' := by
  rcases h with ⟨rfl, rfl⟩ | ⟨x, P, L, rfl, h⟩
  · have : B.length = ([] : List KE).length := Maps.len hB Maps.nil
    rw [this]
    exact len_nil W
  · exact (len_ix h).mono (fun e w' ⟨A, h1, h2, h3⟩ => ⟨by rw [h2, Maps.len h1 hB], h3⟩)
theorem IxQ.sizes (h : IxQ W pv f) {B : List KE} (hB : Maps B f) : Calls Try.prog 25 #[pv] W fun e w' => e = .returned (szV (cnts B)) ∧ Below W.heap.size W w' := by
  rcases h with ⟨rfl, rfl⟩ | ⟨x, P, L, rfl, h⟩
  · have : B = [] := by
      have := Maps.len hB Maps.nil
      exact List.length_eq_zero_iff.1 this
    subst this
    exact (sizes_nil W).mono (fun e w' ⟨h1, h2⟩ => ⟨by rw [h1]; unfold szV; rw [zero_cnts], h2⟩)
  · exact (sizes_ix h).mono (fun e w' ⟨ns, h1, h2, h3, h4⟩ => ⟨by rw [h3, szR_cnts hB h1 h2], h4⟩)
end
theorem shardf_any (w : World) (k : KY) : Calls Try.prog 27 #[kV k] w fun e w' => e = .returned (.int .i64 (sh k : Int)) ∧ Below w.heap.size w w' := by
  go_enter Try.func27, Try.ntmps27
  go_upto_region 1 with fail
  refine name_world (fun W => Below w.heap.size w W ∧ KB W w.heap.size k) ⟨below_alloc w _, KB.made w k⟩ ?_
  rintro W ⟨hB, hK⟩
  obtain ⟨kb, hkb⟩ : ∃ kb, kb = w.heap.size := ⟨_, rfl⟩
  rw [← hkb] at hK ⊢
  have HB := hide hB
  have ck := hK.head
  have hb256 := bt_lt k 0
  obtain ⟨j, hj⟩ : ∃ j, j = sh k := ⟨_, rfl⟩
  have HJ := hide hj
  have hjm : ((bt k 0 : Nat) : Int).tmod 16 = (j : Int) := by
    rw [hj]; unfold sh
    rw [show (16 : Int) = ((16 : Nat) : Int) from rfl, ← Int.ofNat_tmod]
  clear hB hK hkb hj
  go_wp2
  go_ret
  exact ⟨by rw [← HJ.out]; rfl, HB.out⟩
end TX
end Go.Proofs.Ytdigjpddmfolgaa

/- A step of the script in memory; sizes held against one another. -/
namespace Go.Proofs.Ytdigjpddmfolgaa
set_option linter.unusedVariables false
set_option linter.unusedSimpArgs false
namespace TX
open Go.RowKit Go.Sort
set_option maxRecDepth 100000
set_option maxHeartbeats 8000000

abbrev SPT : TypeId := 39
structure SP where
  kd : Int
  on : Int
  no : Bool
  key : KY
  ent : EN
  ep : Int
  fr : PL
  to : PL
  any : Bool
def spC (s : SP) : List Value := [.int .i64 s.kd, .int .i64 s.on, .bool s.no] ++ kC s.key ++ eC s.ent ++ [.int .u32 s.ep] ++ plC s.fr ++ plC s.to ++ [.bool s.any]
def spA (s : SP) : Array Value := (spC s).toArray
abbrev spV (s : SP) : Value := .agg (spA s)
theorem spC_len (s : SP) : (spC s).length = 45 := by simp [spC, kC_len, eC_len, plC]
theorem spA_size (s : SP) : (spA s).size = 45 := by simp [spA, spC_len]
theorem spC_one (s : SP) : ∀ v ∈ spC s, v.oneCell' = true := by
  intro v hv
  simp only [spC, List.mem_append] at hv
  rcases hv with (((((h | h) | h) | h) | h) | h) | h
  · simp only [List.mem_cons, List.not_mem_nil, or_false] at h
    rcases h with rfl | rfl | rfl <;> rfl
  · exact kC_one _ v h
  · exact eC_one _ v h
  · rw [List.mem_singleton.1 h]; rfl
  · exact plC_one _ v h
  · exact plC_one _ v h
  · rw [List.mem_singleton.1 h]; rfl
theorem iSP : (Try.prog.info? SPT).map (·.size) = some 45 := by kernel_rfl
abbrev SPB (w : World) (b : Nat) (s : SP) : Prop := Blk w b (spA s) SPT
section
variable {w : World} {b : Nat} {s : SP}
theorem SPB.part (h : SPB w b s) {pre mid post : List Value} {o : Nat} (e : spC s = pre ++ mid ++ post) (ho : o = pre.length) : w.rangeAt b o mid := fun j v hj => by
  have h1 := (Blk.range h) (o + j) v (by
    show (spC s)[o + j]? = some v
    rw [e, List.append_assoc, ho, List.getElem?_append_right (by omega), Nat.add_sub_cancel_left, List.getElem?_append_left (List.getElem?_eq_some_iff.1 hj).1]
    exact hj)
  rw [Nat.zero_add] at h1
  exact h1
theorem SPB.key (h : SPB w b s) : w.rangeAt b 3 (kC s.key) := SPB.part h (pre := [.int .i64 s.kd, .int .i64 s.on, .bool s.no]) (post := eC s.ent ++ [.int .u32 s.ep] ++ plC s.fr ++ plC s.to ++ [.bool s.any]) (by unfold spC; simp only [List.append_assoc]) rfl
theorem SPB.ent (h : SPB w b s) : w.rangeAt b 35 (eC s.ent) := SPB.part h (pre := [.int .i64 s.kd, .int .i64 s.on, .bool s.no] ++ kC s.key) (post := [.int .u32 s.ep] ++ plC s.fr ++ plC s.to ++ [.bool s.any]) (by unfold spC; simp only [List.append_assoc]) (by simp [kC_len])
theorem SPB.fr (h : SPB w b s) : w.rangeAt b 40 (plC s.fr) := SPB.part h (pre := [.int .i64 s.kd, .int .i64 s.on, .bool s.no] ++ kC s.key ++ eC s.ent ++ [.int .u32 s.ep]) (post := plC s.to ++ [.bool s.any]) (by unfold spC; simp only [List.append_assoc]) (by simp [kC_len, eC_len])
theorem SPB.to (h : SPB w b s) : w.rangeAt b 42 (plC s.to) := SPB.part h (pre := [.int .i64 s.kd, .int .i64 s.on, .bool s.no] ++ kC s.key ++ eC s.ent ++ [.int .u32 s.ep] ++ plC s.fr) (post := [.bool s.any]) (by unfold spC; simp only [List.append_assoc]) (by simp [kC_len, eC_len, plC])
theorem SPB.kd (h : SPB w b s) : w.cell? ⟨b, 0, none⟩ = some (.int .i64 s.kd) := by rw [Blk.cell h]; rfl
theorem SPB.on (h : SPB w b s) : w.cell? ⟨b, 1, none⟩ = some (.int .i64 s.on) := by rw [Blk.cell h]; rfl
theorem SPB.no (h : SPB w b s) : w.cell? ⟨b, 2, none⟩ = some (.bool s.no) := by rw [Blk.cell h]; rfl
theorem SPB.ep (h : SPB w b s) : w.cell? ⟨b, 39, none⟩ = some (.int .u32 s.ep) := SPB.part h (mid := [.int .u32 s.ep]) (pre := [.int .i64 s.kd, .int .i64 s.on, .bool s.no] ++ kC s.key ++ eC s.ent) (post := plC s.fr ++ plC s.to ++ [.bool s.any]) (by unfold spC; simp only [List.append_assoc]) (by simp [kC_len, eC_len]) 0 _ rfl
theorem SPB.any (h : SPB w b s) : w.cell? ⟨b, 44, none⟩ = some (.bool s.any) := SPB.part h (mid := [.bool s.any]) (pre := [.int .i64 s.kd, .int .i64 s.on, .bool s.no] ++ kC s.key ++ eC s.ent ++ [.int .u32 s.ep] ++ plC s.fr ++ plC s.to) (post := []) (by unfold spC; simp only [List.append_assoc, List.append_nil]) (by simp [kC_len, eC_len, plC]) 0 _ rfl
end
theorem run_ldSP {w : World} {b o : Nat} {s : SP} (h : w.rangeAt b o (spC s)) : (Instr.loadAt SPT (.pointer (some ⟨b, o, none⟩))).run Try.prog w = .ok (spV s) w :=
  run_loadAt_mid (P := Try.prog) w b o SPT (spC s) _ h Try.underlying39 rfl (by rw [spC_len]; exact iSP)
/-- Sizes, held against themselves. -/
theorem equalZ (ns : List Nat) (h : ns.length = 16) (w : World) : (Op.equalIn 10000 SZT (szV ns) (szV ns)).run Try.prog w = .ok true w := by
  have ht := Try.underlying72
  have he := Try.underlying3
  have hsz : ∀ w, (sizeOf 3).run Try.prog w = .ok 1 w := fun w => by kernel_rfl
  have hA : szV ns = .agg (ns.map (fun n : Nat => Value.int .i64 (n : Int))).toArray := by unfold szV szA; rw [szC_full h]
  rw [hA, Op.equalIn]
  simp only [Sem.run_bind, run_underlying ht, Result.andThen_ok, hsz, Std.Legacy.Range.forIn_eq_forIn_range', Std.Legacy.Range.size, Nat.sub_zero, Nat.add_sub_cancel, Nat.div_one]
  have hl : ∀ i ∈ List.range' 0 16 1, i < 16 := fun i hi => by simpa using (List.mem_range'_1.1 hi).2
  generalize List.range' 0 16 1 = l at hl ⊢
  induction l with
  | nil => simp
  | cons i l ih =>
    have hi : i < 16 := hl i (by simp)
    have px : (part 3 (ns.map (fun n : Nat => Value.int .i64 (n : Int))).toArray (i * 1)).run Try.prog w = .ok (.int .i64 ((ns[i]'(by omega) : Nat) : Int)) w := by
      simp [part, isAgg, run_underlying he, List.getElem?_eq_getElem (show i < ns.length by omega)]
    have pe : (Op.equalIn 9999 3 (.int .i64 ((ns[i]'(by omega) : Nat) : Int)) (.int .i64 ((ns[i]'(by omega) : Nat) : Int))).run Try.prog w = .ok true w := by
      rw [run_equalIn_int w 9998 3 .i64 .i64 _ _ he]
      simp
    simp only [List.forIn_cons, Sem.run_bind, px, pe, Result.andThen_ok]
    simp only [Bool.not_true, Bool.false_eq_true, if_false, Sem.run_pure, Result.andThen_ok]
    exact ih fun j hj => hl j (by simp [hj])
theorem guardZ : Try.prog.eqGuardType Try.prog.depth SZT = false := by kernel_rfl
theorem run_eqlZ {op : Oper} {ev : Operand → Value} {x y : Operand} {u : TypeId} {ns : List Nat} (h : ns.length = 16) (ho : op.op = .binOp .eql SZT x y u) (hx : ev x = szV ns) (hy : ev y = szV ns) (w : World) : (execOp ev op).run Try.prog w = .ok (.value (.bool true)) w := by
  simp only [execOp, ho, hx, hy, Sem.run_bind, run_eqGuard_agg (P := Try.prog) w .eql SZT x y _ _ guardZ, Result.andThen_ok, run_eql_struct, equalZ ns h, Sem.run_pure]
end TX
end Go.Proofs.Ytdigjpddmfolgaa

/- asks: the drawn region that asks for All. -/
namespace Go.Proofs.Ytdigjpddmfolgaa
set_option linter.unusedVariables false
set_option linter.unusedSimpArgs false
namespace TX
set_option maxRecDepth 100000
set_option maxHeartbeats 8000000
open Go.RowKit Go.Sort

theorem run_bdKP {op : Oper} {ev : Operand → Value} {x y : Operand} (ho : op.op = .build KPT #[(0, x), (1, y)]) {lb : Nat} {ao : Option Addr} {n c : Nat} (hx : ev x = itV lb) (hy : ev y = .slice ao n c) (w : World) : (execOp ev op).run Try.prog w = .ok (.value (.agg #[itV lb, .slice ao n c])) w := by
  simp only [execOp, ho]
  simp only [List.map_toArray, List.map_cons, List.map_nil, hx, hy]
  kernel_rfl
def ak_0 (s : String) : Oper := { dst := some 71, op := Op.move (Operand.tmp 0), type := 24, pos := s, after := #[], guard := none }
def ak_1 (s : String) : Oper := { dst := some 72, op := Op.call { callee := Callee.value (Operand.func 8), args := #[Operand.tmp 71], argTypes := #[24] }, type := 41, pos := s, after := #[{ on := 0, ground := Ground.data }], guard := none }
def ak_2 (s : String) : Oper := { dst := some 73, op := Op.move (Operand.tmp 1), type := 27, pos := s, after := #[], guard := none }
def ak_3 (s : String) : Oper := { dst := some 74, op := Op.nilCheck (Operand.tmp 73), type := 0, pos := s, after := #[{ on := 2, ground := Ground.data }], guard := none }
def ak_4 (s : String) : Oper := { dst := some 75, op := Op.fieldAddr 45 (Operand.tmp 74) 0, type := 0, pos := s, after := #[{ on := 3, ground := Ground.data }], guard := none }
def ak_5 (s : String) : Oper := { dst := some 76, op := Op.load 43 (Operand.tmp 75), type := 43, pos := s, after := #[{ on := 4, ground := Ground.data }], guard := none }
def ak_6 (s : String) : Oper := { dst := some 77, op := Op.build 47 #[(0, Operand.tmp 72), (1, Operand.tmp 76)], type := 47, pos := s, after := #[{ on := 1, ground := Ground.data }, { on := 5, ground := Ground.data }], guard := none }
def ak_7 (s : String) : Oper := { dst := some 78, op := Op.call { callee := Callee.value (Operand.func 11), args := #[Operand.tmp 77], argTypes := #[47] }, type := 4, pos := s, after := #[{ on := 6, ground := Ground.data }, { on := 1, ground := Ground.chain }], guard := none }
def ak_8 (s : String) : Oper := { dst := some 6, op := Op.assign (Operand.tmp 78), type := 4, pos := s, after := #[{ on := 7, ground := Ground.data }, { on := 7, ground := Ground.chain }, { on := 0, ground := Ground.phase }, { on := 1, ground := Ground.phase }, { on := 2, ground := Ground.phase }, { on := 3, ground := Ground.phase }, { on := 4, ground := Ground.phase }, { on := 5, ground := Ground.phase }, { on := 6, ground := Ground.phase }, { on := 7, ground := Ground.phase }], guard := none }
def ak_ops (s : String) : Array Oper := #[ak_0 s, ak_1 s, ak_2 s, ak_3 s, ak_4 s, ak_5 s, ak_6 s, ak_7 s, ak_8 s]
theorem ak_enter1 (s : String) (a : Act) (w : World) : (execOp a.eval (ak_1 s)).run Try.prog w = .ok (.enter 8 #[a.eval (.tmp 71)]) w := by kernel_rfl
theorem ak_enter7 (s : String) (a : Act) (w : World) : (execOp a.eval (ak_7 s)).run Try.prog w = .ok (.enter 11 #[a.eval (.tmp 77)]) w := by kernel_rfl
theorem ak_walk (s : String) {Q : Exit → Act → World → Prop} (hQ : ∀ c (a : Act) t v w, Q (.panic c) (a.put (some t) v) w → Q (.panic c) a w) (W : World) (q n c : Nat) (ao : Option Addr) (pv : Value) (M1 : Nat → World → Prop) (M2 : World → World → Prop) (hS0 : W.drew.cell? ⟨q, 0, none⟩ = some (.slice ao n c)) (hc1 : Calls Try.prog 8 #[pv] W.drew fun e w' => ∃ lb, e = .returned (itV lb) ∧ M1 lb w') (hk1 : ∀ lb w2, M1 lb w2 → w2.cell? ⟨q, 0, none⟩ = some (.slice ao n c)) (hc2 : ∀ lb w2, M1 lb w2 → Calls Try.prog 11 #[.agg #[itV lb, .slice ao n c]] w2 fun e w' => e = .returned (.bool true) ∧ M2 w2 w') (hk2 : ∀ lb w2 w3, M1 lb w2 → M2 w2 w3 → w3.cell? ⟨q, 0, none⟩ = some (.slice ao n c))
    (a : Act) (hs : 78 < a.tmps.size) (e0 : a.eval (.tmp 0) = pv) (e1 : a.eval (.tmp 1) = .pointer (some ⟨q, 0, none⟩))
    (h0 : ∀ lb w2, M1 lb w2 → ∀ w3, M2 w2 w3 → Q .normal (((((((((a.put (some 71) (pv)).put (some 73) (.pointer (some ⟨q, 0, none⟩))).put (some 74) (.pointer (some ⟨q, 0, none⟩))).put (some 75) (.pointer (some ⟨q, 0, none⟩))).put (some 76) (.slice ao n c)).put (some 72) (itV lb)).put (some 77) (.agg #[itV lb, .slice ao n c])).put (some 78) (.bool true)).put (some 6) (.bool true)) w3) :
    Code.wp Try.prog (.region 11 (ak_ops s) true) Q a W := by
  refine wp_region_held_drew (S := fun w => w.cell? ⟨q, 0, none⟩ = some (.slice ao n c)) (by kernel_rfl) hS0 (fun hS => ?_)
  change wpAnyH _ _ _ _ _ _ _ _ (World.drew _)
  refine wpAnyH_take (i := 0) (oi := ak_0 s) (v := pv) (by kernel_rfl) (by kernel_rfl) (by kernel_rfl) (by kernel_rfl) (fun c a w h => hQ c _ _ _ w h) (Or.inl ⟨wanted_none rfl, fun w hw => by simp only [execOp, ak_0, e0]; rfl⟩) hS ?_
  change wpAnyH _ _ _ _ _ _ _ (a.put (some 71) (pv)) _
  obtain ⟨a0_1, ha1⟩ : ∃ rr : Act, rr = a.put (some 71) (pv) := ⟨_, rfl⟩
  have qz1 : 78 < a0_1.tmps.size := by rw [ha1, sz_put]; exact hs
  have f1_1 : a0_1.eval (.tmp 1) = .pointer (some ⟨q, 0, none⟩) := by rw [ha1, ev_other _ _ _ _ (by decide)]; exact e1
  have f1_71 : a0_1.eval (.tmp 71) = pv := by rw [ha1]; exact ev_same _ _ _ (Nat.lt_of_le_of_lt (by decide) hs)
  rw [← ha1] at h0 ⊢
  clear ha1
  refine wpAnyH_take (i := 2) (oi := ak_2 s) (v := .pointer (some ⟨q, 0, none⟩)) (by kernel_rfl) (by kernel_rfl) (by kernel_rfl) (by kernel_rfl) (fun c a w h => hQ c _ _ _ w h) (Or.inl ⟨wanted_none rfl, fun w hw => by simp only [execOp, ak_2, f1_1]; rfl⟩) hS ?_
  change wpAnyH _ _ _ _ _ _ _ (a0_1.put (some 73) (.pointer (some ⟨q, 0, none⟩))) _
  obtain ⟨a0_2, ha2⟩ : ∃ rr : Act, rr = a0_1.put (some 73) (.pointer (some ⟨q, 0, none⟩)) := ⟨_, rfl⟩
  have qz2 : 78 < a0_2.tmps.size := by rw [ha2, sz_put]; exact qz1
  have f2_71 : a0_2.eval (.tmp 71) = pv := by rw [ha2, ev_other _ _ _ _ (by decide)]; exact f1_71
  have f2_73 : a0_2.eval (.tmp 73) = .pointer (some ⟨q, 0, none⟩) := by rw [ha2]; exact ev_same _ _ _ (Nat.lt_of_le_of_lt (by decide) qz1)
  rw [← ha2] at h0 ⊢
  clear ha2
  refine wpAnyH_take (i := 3) (oi := ak_3 s) (v := .pointer (some ⟨q, 0, none⟩)) (by kernel_rfl) (by kernel_rfl) (by kernel_rfl) (by kernel_rfl) (fun c a w h => hQ c _ _ _ w h) (Or.inl ⟨wanted_none rfl, fun w hw => by simp only [execOp, ak_3, f2_73]; rfl⟩) hS ?_
  change wpAnyH _ _ _ _ _ _ _ (a0_2.put (some 74) (.pointer (some ⟨q, 0, none⟩))) _
  obtain ⟨a0_3, ha3⟩ : ∃ rr : Act, rr = a0_2.put (some 74) (.pointer (some ⟨q, 0, none⟩)) := ⟨_, rfl⟩
  have qz3 : 78 < a0_3.tmps.size := by rw [ha3, sz_put]; exact qz2
  have f3_71 : a0_3.eval (.tmp 71) = pv := by rw [ha3, ev_other _ _ _ _ (by decide)]; exact f2_71
  have f3_74 : a0_3.eval (.tmp 74) = .pointer (some ⟨q, 0, none⟩) := by rw [ha3]; exact ev_same _ _ _ (Nat.lt_of_le_of_lt (by decide) qz2)
  rw [← ha3] at h0 ⊢
  clear ha3
  refine wpAnyH_take (i := 4) (oi := ak_4 s) (v := .pointer (some ⟨q, 0, none⟩)) (by kernel_rfl) (by kernel_rfl) (by kernel_rfl) (by kernel_rfl) (fun c a w h => hQ c _ _ _ w h) (Or.inl ⟨wanted_none rfl, fun w hw => by simp only [execOp, ak_4, f3_74]; rfl⟩) hS ?_
  change wpAnyH _ _ _ _ _ _ _ (a0_3.put (some 75) (.pointer (some ⟨q, 0, none⟩))) _
  obtain ⟨a0_4, ha4⟩ : ∃ rr : Act, rr = a0_3.put (some 75) (.pointer (some ⟨q, 0, none⟩)) := ⟨_, rfl⟩
  have qz4 : 78 < a0_4.tmps.size := by rw [ha4, sz_put]; exact qz3
  have f4_71 : a0_4.eval (.tmp 71) = pv := by rw [ha4, ev_other _ _ _ _ (by decide)]; exact f3_71
  have f4_75 : a0_4.eval (.tmp 75) = .pointer (some ⟨q, 0, none⟩) := by rw [ha4]; exact ev_same _ _ _ (Nat.lt_of_le_of_lt (by decide) qz3)
  rw [← ha4] at h0 ⊢
  clear ha4
  refine wpAnyH_take (i := 5) (oi := ak_5 s) (v := .slice ao n c) (by kernel_rfl) (by kernel_rfl) (by kernel_rfl) (by kernel_rfl) (fun c a w h => hQ c _ _ _ w h) (Or.inl ⟨wanted_none rfl, fun w hw => run_loadO rfl f4_75 (load_kl hw)⟩) hS ?_
  change wpAnyH _ _ _ _ _ _ _ (a0_4.put (some 76) (.slice ao n c)) _
  obtain ⟨a0_5, ha5⟩ : ∃ rr : Act, rr = a0_4.put (some 76) (.slice ao n c) := ⟨_, rfl⟩
  have qz5 : 78 < a0_5.tmps.size := by rw [ha5, sz_put]; exact qz4
  have f5_71 : a0_5.eval (.tmp 71) = pv := by rw [ha5, ev_other _ _ _ _ (by decide)]; exact f4_71
  have f5_76 : a0_5.eval (.tmp 76) = .slice ao n c := by rw [ha5]; exact ev_same _ _ _ (Nat.lt_of_le_of_lt (by decide) qz4)
  rw [← ha5] at h0 ⊢
  clear ha5
  refine wpAnyH_ready (rs := [1]) (by kernel_rfl) (by simp) ?_
  refine AllReadyH.cons (o := ak_1 s) (by kernel_rfl) (fun KQ hKQ => ?_) AllReadyH.nil
  rw [if_pos (wanted_none rfl)]
  refine step_enterE 8 #[pv] (by rw [ak_enter1, f5_71]) (fun V w' => ∃ lb, V = itV lb ∧ M1 lb w') (hc1.mono (fun e w' ⟨lb, h1, h2⟩ => ⟨_, h1, lb, rfl, h2⟩)) ?_
  rintro _ w2 ⟨lb, rfl, hM1⟩
  refine hKQ.out _ _ (hk1 lb w2 hM1) (fun _ => ?_)
  clear hKQ KQ
  change wpAnyH _ _ _ _ _ _ _ (a0_5.put (some 72) (itV lb)) _
  have h0 := h0 lb w2 hM1
  obtain ⟨a0_6, ha6⟩ : ∃ rr : Act, rr = a0_5.put (some 72) (itV lb) := ⟨_, rfl⟩
  have qz6 : 78 < a0_6.tmps.size := by rw [ha6, sz_put]; exact qz5
  have f6_72 : a0_6.eval (.tmp 72) = itV lb := by rw [ha6]; exact ev_same _ _ _ (Nat.lt_of_le_of_lt (by decide) qz5)
  have f6_76 : a0_6.eval (.tmp 76) = .slice ao n c := by rw [ha6, ev_other _ _ _ _ (by decide)]; exact f5_76
  rw [← ha6] at h0 ⊢
  clear ha6
  refine wpAnyH_take (i := 6) (oi := ak_6 s) (v := .agg #[itV lb, .slice ao n c]) (by kernel_rfl) (by kernel_rfl) (by kernel_rfl) (by kernel_rfl) (fun c a w h => hQ c _ _ _ w h) (Or.inl ⟨wanted_none rfl, fun w hw => run_bdKP rfl f6_72 f6_76 w⟩) (hk1 lb w2 hM1) ?_
  change wpAnyH _ _ _ _ _ _ _ (a0_6.put (some 77) (.agg #[itV lb, .slice ao n c])) _
  obtain ⟨a0_7, ha7⟩ : ∃ rr : Act, rr = a0_6.put (some 77) (.agg #[itV lb, .slice ao n c]) := ⟨_, rfl⟩
  have qz7 : 78 < a0_7.tmps.size := by rw [ha7, sz_put]; exact qz6
  have f7_77 : a0_7.eval (.tmp 77) = .agg #[itV lb, .slice ao n c] := by rw [ha7]; exact ev_same _ _ _ (Nat.lt_of_le_of_lt (by decide) qz6)
  rw [← ha7] at h0 ⊢
  clear ha7
  refine wpAnyH_ready (rs := [7]) (by kernel_rfl) (by simp) ?_
  refine AllReadyH.cons (o := ak_7 s) (by kernel_rfl) (fun KQ hKQ => ?_) AllReadyH.nil
  rw [if_pos (wanted_none rfl)]
  refine step_enterE 11 #[.agg #[itV lb, .slice ao n c]] (by rw [ak_enter7, f7_77]) (fun V w' => V = .bool true ∧ M2 w2 w') ((hc2 lb w2 hM1).mono (fun e w' ⟨h1, h2⟩ => ⟨_, h1, rfl, h2⟩)) ?_
  rintro _ w3 ⟨rfl, hM2⟩
  refine hKQ.out _ _ (hk2 lb w2 w3 hM1 hM2) (fun _ => ?_)
  clear hKQ KQ
  change wpAnyH _ _ _ _ _ _ _ (a0_7.put (some 78) (.bool true)) _
  have h0 := h0 w3 hM2
  obtain ⟨a0_8, ha8⟩ : ∃ rr : Act, rr = a0_7.put (some 78) (.bool true) := ⟨_, rfl⟩
  have qz8 : 78 < a0_8.tmps.size := by rw [ha8, sz_put]; exact qz7
  have f8_78 : a0_8.eval (.tmp 78) = .bool true := by rw [ha8]; exact ev_same _ _ _ (Nat.lt_of_le_of_lt (by decide) qz7)
  rw [← ha8] at h0 ⊢
  clear ha8
  refine wpAnyH_take (i := 8) (oi := ak_8 s) (v := .bool true) (by kernel_rfl) (by kernel_rfl) (by kernel_rfl) (by kernel_rfl) (fun c a w h => hQ c _ _ _ w h) (Or.inl ⟨wanted_none rfl, fun w hw => by simp only [execOp, ak_8, f8_78]; rfl⟩) (hk2 lb w2 w3 hM1 hM2) ?_
  change wpAnyH _ _ _ _ _ _ _ (a0_8.put (some 6) (.bool true)) _
  obtain ⟨a0_9, ha9⟩ : ∃ rr : Act, rr = a0_8.put (some 6) (.bool true) := ⟨_, rfl⟩
  have qz9 : 78 < a0_9.tmps.size := by rw [ha9, sz_put]; exact qz8
  rw [← ha9] at h0 ⊢
  clear ha9
  refine wpAnyH_done (by kernel_rfl) ?_ _
  exact h0
end TX
end Go.Proofs.Ytdigjpddmfolgaa

/- asks: walked. -/
namespace Go.Proofs.Ytdigjpddmfolgaa
set_option linter.unusedVariables false
set_option linter.unusedSimpArgs false
namespace TX
open Go.RowKit Go.Sort
set_option maxRecDepth 100000
set_option maxHeartbeats 16000000

theorem asks_any (w : World) {pv : Value} {q n0 : Nat} {f : KY → Option EN} (s : SP) (hp : IxQ w pv f) (hr : RxA w q f n0) (hn : n0 ≤ 1099511627776) : Calls Try.prog 9 #[pv, .pointer (some ⟨q, 0, none⟩), spV s] w fun e w' => e = .returned (.bool true) ∧ Below w.heap.size w w' := by
  have HP := hide hp
  obtain ⟨V, hL0, hM, hRi, hV⟩ := hr
  have HH := hide hL0
  have HM := hide hM
  have HRS := hide hRi
  have HVL : Hid (V.length ≤ 1099511627776) := hide (by omega)
  clear hp hL0 hM hRi hV hn
  go_enter Try.func9, Try.ntmps9
  go_upto_region 1 with fail
  refine name_world (fun W => Below w.heap.size w W ∧ SPB W w.heap.size s) ⟨below_alloc w _, Blk.made w _ _⟩ ?_
  rintro W ⟨hB, hS⟩
  obtain ⟨kb, hkb⟩ : ∃ kb, kb = w.heap.size := ⟨_, rfl⟩
  rw [← hkb] at hS ⊢
  have HB := hide hB
  have HS := hide hS
  have HPW := hide (HP.out.below hB)
  have HLW := hide (HH.out.below hB)
  have HKey := hide hS.key
  obtain ⟨k, hk⟩ : ∃ k, k = s.key := ⟨_, rfl⟩
  rw [← hk] at HKey
  have HK := hide hk
  obtain ⟨kd, hkd⟩ : ∃ kd, kd = s.kd := ⟨_, rfl⟩
  have ck : W.cell? ⟨kb, 0, none⟩ = some (.int .i64 kd) := by rw [hkd]; exact hS.kd
  have HZE : Hid (∀ w5 : World, EB (w5.alloc (.cells (eA eZ) ET)) w5.heap.size eZ) := hide (fun w5 => EB.made w5 eZ)
  have HZD : Hid (∀ w5 : World, Blk (w5.alloc (.cells (kdA kdZ) KDT)) w5.heap.size (kdA kdZ) KDT) := hide (fun w5 => Blk.made w5 _ _)
  clear hB hS hkb hkd hk HP
  by_cases h2 : kd = 2
  · subst h2
    have hz0 := zero_E
    have HG := hide (HPW.out.get k)
    unfold optV at HG
    obtain ⟨u, hu⟩ : ∃ u, u = (f k).getD eZ := ⟨_, rfl⟩
    obtain ⟨bo, hbo⟩ : ∃ bo, bo = (f k).isSome := ⟨_, rfl⟩
    rw [← hu, ← hbo] at HG
    have HRG : Hid (∀ W2, RlAt W2 q V → Calls Try.prog 23 #[.pointer (some ⟨q, 0, none⟩), kV k] W2 fun e w' => e = .returned (.tuple #[eV u, .bool bo]) ∧ Below W2.heap.size W2 w') := hide (fun W2 h => by rw [hu, hbo]; exact rget_any W2 h HM.out (by have := HVL.out; omega) k)
    have HEQ : Hid (∀ (op : Oper) (ev : Operand → Value) (x y : Operand) (t : TypeId) (w9 : World), op.op = .binOp .eql ET x y t → ev x = eV u → ev y = eV u → (execOp ev op).run Try.prog w9 = .ok (.value (.bool true)) w9) := hide (fun op ev x y t w9 h1 h2 h3 => by rw [run_eqlE h1 h2 h3 w9, eqE_self])
    clear hu hbo
    go_upto_region 4 with (first | ((with_reducible refine wpList_ldK ?_ (.tmp 21) ?_ kb 3 ?_ k HKey.out ?_); rfl; rfl; rfl) | (go_at_call 18; (with_reducible refine HG.out.mono ?_); rintro e w2 ⟨rfl, hb⟩; have HB2 := hide hb; have HE2 := hide (HZE.out w2); clear hb) | ((with_reducible refine wpList_stEB ?_ (.tmp 7) (.tmp 24) ?_ w2.heap.size ?_ eZ u ?_ HE2.out ?_); rfl; rfl; rfl; rfl; intro w3 h3 hg3))
    have hb3 : Below W.heap.size W w3 := HB2.out.trans ((below_grownBy (grownBy_trans (World.grownBy_alloc w2 _ _) hg3.out) (Nat.le_refl _) (Nat.le_refl _)).mono HB2.out.size)
    have HB3 := hide (HB.out.trans (hb3.mono HB.out.size))
    have HK3 := hide (range_bel HKey.out hb3)
    have HRG3 := hide (HRG.out w3 (HLW.out.below hb3))
    obtain ⟨eb, heb⟩ : ∃ eb, eb = w2.heap.size := ⟨_, rfl⟩
    rw [← heb] at h3 ⊢
    have HU3 := hide h3.out
    clear hb3 h3 hg3 heb HB2 HE2 HG HRG HKey HS ck HPW HLW
    go_upto_region 5 with (first | ((with_reducible refine wpList_ldK ?_ (.tmp 28) ?_ kb 3 ?_ k HK3.out ?_); rfl; rfl; rfl) | (go_at_call 23; (with_reducible refine HRG3.out.mono ?_); rintro e w4 ⟨rfl, hb⟩; have HB4 := hide (HB3.out.trans (hb.mono HB3.out.size)); have HU4 := hide (HU3.out.below hb); have HE4 := hide (HZE.out w4); clear hb) | ((with_reducible refine wpList_stEB ?_ (.tmp 9) (.tmp 31) ?_ w4.heap.size ?_ eZ u ?_ HE4.out ?_); rfl; rfl; rfl; rfl; intro w5 h5 hg5))
    have hb5 : Below w4.heap.size w4 w5 := below_grownBy (grownBy_trans (World.grownBy_alloc w4 _ _) hg5.out) (Nat.le_refl _) (Nat.le_refl _)
    have HB5 := hide (HB4.out.trans (hb5.mono HB4.out.size))
    have HU5 := hide (HU4.out.below hb5)
    have HV5 := hide h5.out
    clear hb5 h5 hg5 HB4 HU4 HE4 HB3 HK3 HRG3 HU3
    cases bo with
    | true =>
      go_wp2_with (first | ((with_reducible refine wpList_ldE ?_ (.tmp 7) ?_ eb 0 ?_ u HU5.out.rng ?_); rfl; rfl; rfl) | ((with_reducible refine wpList_ldE ?_ (.tmp 9) ?_ w4.heap.size 0 ?_ u HV5.out.rng ?_); rfl; rfl; rfl) | ((with_reducible refine wpList_valW (.bool true) ?_ (HEQ.out _ _ (.tmp 33) (.tmp 34) ET _ ?_ ?_ ?_) ?_); rfl; rfl; rfl; rfl))
      go_ret
      exact ⟨rfl, HB5.out⟩
    | false =>
      go_wp2_with (first | ((with_reducible refine wpList_ldE ?_ (.tmp 7) ?_ eb 0 ?_ u HU5.out.rng ?_); rfl; rfl; rfl) | ((with_reducible refine wpList_ldE ?_ (.tmp 9) ?_ w4.heap.size 0 ?_ u HV5.out.rng ?_); rfl; rfl; rfl) | ((with_reducible refine wpList_valW (.bool true) ?_ (HEQ.out _ _ (.tmp 33) (.tmp 34) ET _ ?_ ?_ ?_) ?_); rfl; rfl; rfl; rfl))
      go_ret
      exact ⟨rfl, HB5.out⟩
  · have b2 : (kd == 2) = false := by simpa using h2
    by_cases h7 : kd = 7
    · subst h7
      have hzk := zero_KD
      obtain ⟨an, han⟩ : ∃ an, an = s.any := ⟨_, rfl⟩
      have ca : W.cell? ⟨kb, 44, none⟩ = some (.bool an) := by rw [han]; exact HS.out.any
      have HG := hide (HPW.out.next k an)
      have HRG : Hid (∀ W2, RlAt W2 q V → Calls Try.prog 24 #[.pointer (some ⟨q, 0, none⟩), kV k, .bool an] W2 (NxtC W2 k an f)) := hide (fun W2 h => rnext_any W2 h HM.out HRS.out (by have := HVL.out; omega) k an)
      unfold NxtC at HG HRG
      have HEQ : Hid (∀ (z : KE) (op : Oper) (ev : Operand → Value) (x y : Operand) (t : TypeId) (w9 : World), op.op = .binOp .eql KDT x y t → ev x = kdV z → ev y = kdV z → (execOp ev op).run Try.prog w9 = .ok (.value (.bool true)) w9) := hide (fun z op ev x y t w9 h1 h2 h3 => run_eqlD h1 h2 h3 w9)
      clear han
      go_upto_region 8 with (first | ((with_reducible refine wpList_ldK ?_ (.tmp 45) ?_ kb 3 ?_ k HKey.out ?_); rfl; rfl; rfl) | (go_at_call 14; (with_reducible refine HG.out.mono ?_); rintro e w2 ⟨⟨fo, rfl, hl⟩, hb⟩; have HL := hide hl; have HB2 := hide hb; have HD2 := hide (HZD.out w2); clear hb hl; obtain ⟨u, hu⟩ : ∃ u, u = fo.getD kdZ := ⟨_, rfl⟩; obtain ⟨bo, hbo⟩ : ∃ bo, bo = fo.isSome := ⟨_, rfl⟩; rw [← hu, ← hbo]; have HU := hide hu; have HBO := hide hbo; clear hu hbo) | ((with_reducible refine wpList_stKD ?_ (.tmp 11) (.tmp 50) ?_ w2.heap.size ?_ kdZ u ?_ HD2.out ?_); rfl; rfl; rfl; rfl; intro w3 h3 hg3))
      have hb3 : Below W.heap.size W w3 := HB2.out.trans ((below_grownBy (grownBy_trans (World.grownBy_alloc w2 _ _) hg3.out) (Nat.le_refl _) (Nat.le_refl _)).mono HB2.out.size)
      have HB3 := hide (HB.out.trans (hb3.mono HB.out.size))
      have HK3 := hide (range_bel HKey.out hb3)
      have HRG3 := hide (HRG.out w3 (HLW.out.below hb3))
      have ca3 : w3.cell? ⟨kb, 44, none⟩ = some (.bool an) := by rw [hb3.cell (HS.out.lt)]; exact ca
      obtain ⟨eb, heb⟩ : ∃ eb, eb = w2.heap.size := ⟨_, rfl⟩
      rw [← heb] at h3 ⊢
      have HU3 := hide h3.out
      have lk3 : kb < w3.heap.size := Nat.lt_of_lt_of_le HS.out.lt hb3.size
      have le3 : Blk w3 eb (kdA u) KDT := HU3.out
      clear hb3 h3 hg3 heb HB2 HD2 HG HRG HKey HS ck HPW HLW ca le3
      go_upto_region 9 with (first | ((with_reducible refine wpList_ldK ?_ (.tmp 54) ?_ kb 3 ?_ k HK3.out ?_); rfl; rfl; rfl) | (go_at_call 24; (with_reducible refine HRG3.out.mono ?_); rintro e w4 ⟨⟨fo2, rfl, hl2⟩, hb⟩; obtain rfl : fo2 = fo := lst_unique hl2 HL.out; rw [← HU.out, ← HBO.out]; have HB4 := hide (HB3.out.trans (hb.mono HB3.out.size)); have HU4 : Hid (Blk w4 eb (kdA u) KDT) := hide (Blk.below HU3.out hb (Blk.lt HU3.out)); have HD4 := hide (HZD.out w4); clear hb hl2) | ((with_reducible refine wpList_stKD ?_ (.tmp 13) (.tmp 59) ?_ w4.heap.size ?_ kdZ u ?_ HD4.out ?_); rfl; rfl; rfl; rfl; intro w5 h5 hg5))
      have hb5 : Below w4.heap.size w4 w5 := below_grownBy (grownBy_trans (World.grownBy_alloc w4 _ _) hg5.out) (Nat.le_refl _) (Nat.le_refl _)
      have HB5 := hide (HB4.out.trans (hb5.mono HB4.out.size))
      have HU5 : Hid (w5.rangeAt eb 0 (kdC u)) := hide (Blk.range (Blk.below HU4.out hb5 (Blk.lt HU4.out)))
      have HV5 : Hid (w5.rangeAt w4.heap.size 0 (kdC u)) := hide (Blk.range h5.out)
      clear hb5 h5 hg5 HB4 HU4 HD4 HB3 HK3 HRG3 HU3 ca3 lk3
      have HBX := hide HBO.out
      clear HBO
      cases bo with
      | true =>
        go_wp2_with (first | ((with_reducible refine wpList_ldKD ?_ (.tmp 11) ?_ eb 0 ?_ u HU5.out ?_); rfl; rfl; rfl) | ((with_reducible refine wpList_ldKD ?_ (.tmp 13) ?_ w4.heap.size 0 ?_ u HV5.out ?_); rfl; rfl; rfl) | ((with_reducible refine wpList_valW (.bool true) ?_ (HEQ.out u _ _ (.tmp 61) (.tmp 62) KDT _ ?_ ?_ ?_) ?_); rfl; rfl; rfl; rfl))
        go_ret
        exact ⟨rfl, HB5.out⟩
      | false =>
        go_wp2_with (first | ((with_reducible refine wpList_ldKD ?_ (.tmp 11) ?_ eb 0 ?_ u HU5.out ?_); rfl; rfl; rfl) | ((with_reducible refine wpList_ldKD ?_ (.tmp 13) ?_ w4.heap.size 0 ?_ u HV5.out ?_); rfl; rfl; rfl) | ((with_reducible refine wpList_valW (.bool true) ?_ (HEQ.out u _ _ (.tmp 61) (.tmp 62) KDT _ ?_ ?_ ?_) ?_); rfl; rfl; rfl; rfl))
        go_ret
        exact ⟨rfl, HB5.out⟩
    · have b7 : (kd == 7) = false := by simpa using h7
      by_cases h8 : kd = 8
      · subst h8
        obtain ⟨ao, n, c, hq, hnV, ho, _⟩ := HLW.out.open
        have hbd : Below W.heap.size W W.drew := (Below.refl _ _).drew
        have HQ1 : Hid (∀ W2, Below W.drew.heap.size W.drew W2 → W2.cell? ⟨q, 0, none⟩ = some (.slice ao n c) ∧ OwnD W2 0 (.slice ao n c) V) := hide (fun W2 h => ⟨by rw [((hq.below hbd hq.lt).below h (hq.below hbd hq.lt).lt).cell]; rfl, (ho.below hbd).below h⟩)
        have HC1 : Hid (Calls Try.prog 8 #[pv] W.drew fun e w' => ∃ lb, e = .returned (itV lb) ∧ ItA w' (itV lb) V ∧ Below W.drew.heap.size W.drew w') := hide (((HPW.out.below hbd).all HM.out HRS.out HVL.out).mono (fun e w' ⟨v, h1, h2, h3⟩ => by
          obtain ⟨lb, u, rfl, h4, h5⟩ := h2
          exact ⟨lb, h1, ⟨lb, u, rfl, h4, h5⟩, h3⟩))
        have HBD := hide (HB.out.trans (hbd.mono HB.out.size))
        clear hq ho hnV hbd HKey HS HPW HLW
        go_upto_region 11 with fail
        refine wp_norm (ak_walk _ (fun _ _ _ _ _ h => h) W q n c ao pv (fun lb w' => ItA w' (itV lb) V ∧ Below W.drew.heap.size W.drew w') (fun w2 w3 => Below w2.heap.size w2 w3) (HQ1.out _ (Below.refl _ _)).1 HC1.out (fun lb w2 h => (HQ1.out _ h.2).1) (fun lb w2 h => tells_any w2 h.1 (HQ1.out _ h.2).2 HVL.out) (fun lb w2 w3 h h3 => (HQ1.out _ (h.2.trans (h3.mono h.2.size))).1) _ ?_ ?_ ?_ ?_)
        any_goals rfl
        · exact Nat.lt_of_sub_pos (by exact Nat.succ_pos _)
        rintro lb w2 ⟨_, hb2⟩ w3 hb3
        have HB3 := hide (HBD.out.trans ((hb2.trans (hb3.mono hb2.size)).mono HBD.out.size))
        clear hb2 hb3 ck
        simp only [Act.put, List.setIfInBounds_toArray, List.set_cons_zero, List.set_cons_succ, Exit.then]
        go_wp2
        go_ret
        exact ⟨rfl, HB3.out⟩
      · have b8 : (kd == 8) = false := by simpa using h8
        by_cases h9 : kd = 9
        · subst h9
          obtain ⟨ao, n, c, hq, hnV, _, _⟩ := HLW.out.open
          have HC : Hid (∀ d os, Calls Try.prog 12 #[pv] (grow (redrawn W d) os) fun e w' => e = .returned (.int .i64 (n : Int)) ∧ Below (grow (redrawn W d) os).heap.size (grow (redrawn W d) os) w') := hide (fun d os => by rw [hnV.out]; exact (HPW.out.below (below_regrown W d os)).len HM.out)
          have cqr := fun d os => cell_regrown (show W.cell? ⟨q, 0, none⟩ = some (.slice ao n c) by rw [hq.cell]; rfl) d os
          have lq := hq.lt
          clear hq HKey HS HPW HLW
          go_upto_region 13 with fail
          refine wp_region_quiet_below (by kernel_rfl) (by kernel_rfl) ?_
          quiet_step (fail)
          quiet_step (exact Calls.regrown_of (HC.out _ _))
          iterate 7 quiet_step (fail)
          refine wpQuiet_nil ?_
          intro w1 hw1
          have hb1 : RowKit.Below W.heap.size W w1 := below_of hw1
          have HB1 := hide (HB.out.trans (hb1.mono HB.out.size))
          clear hw1 hb1 cqr lq ck
          go_wp2
          go_ret
          exact ⟨rfl, HB1.out⟩
        · have b9 : (kd == 9) = false := by simpa using h9
          by_cases h10 : kd = 10
          · subst h10
            have HC1 := hide (HPW.out.sizes HM.out)
            have HC2 : Hid (∀ W2, RlAt W2 q V → Calls Try.prog 26 #[.pointer (some ⟨q, 0, none⟩)] W2 fun e w' => e = .returned (szV (cnts V)) ∧ Below W2.heap.size W2 w') := hide (fun W2 h => rsizes_any W2 h HVL.out)
            have HEQ : Hid (∀ (op : Oper) (ev : Operand → Value) (x y : Operand) (t : TypeId) (w9 : World), op.op = .binOp .eql SZT x y t → ev x = szV (cnts V) → ev y = szV (cnts V) → (execOp ev op).run Try.prog w9 = .ok (.value (.bool true)) w9) := hide (fun op ev x y t w9 h1 h2 h3 => run_eqlZ (cnts_len V) h1 h2 h3 w9)
            clear HKey HS HPW
            go_wp2_with (first | (go_at_call 25; (with_reducible refine HC1.out.mono ?_); rintro e w2 ⟨rfl, hb⟩; have HB2 := hide (HB.out.trans (hb.mono HB.out.size)); have HL2 := hide (HLW.out.below hb); clear hb) | (go_at_call 26; (with_reducible refine (HC2.out w2 HL2.out).mono ?_); rintro e w3 ⟨rfl, hb⟩; have HB3 := hide (HB2.out.trans (hb.mono HB2.out.size)); clear hb) | ((with_reducible refine wpList_valW (.bool true) ?_ (HEQ.out _ _ (.tmp 92) (.tmp 94) SZT _ ?_ ?_ ?_) ?_); rfl; rfl; rfl; rfl))
            go_ret
            exact ⟨rfl, HB3.out⟩
          · have b10 : (kd == 10) = false := by simpa using h10
            by_cases h12 : kd = 12
            · subst h12
              have hb256 := bt_lt k 0
              obtain ⟨j, hj⟩ : ∃ j, j = sh k := ⟨_, rfl⟩
              have hjm : ((bt k 0 : Nat) : Int).tmod 16 = (j : Int) := by
                rw [hj]; unfold sh
                rw [show (16 : Int) = ((16 : Nat) : Int) from rfl, ← Int.ofNat_tmod]
              have HC : Hid (∀ d os, Calls Try.prog 27 #[kV k] (grow (redrawn W d) os) fun e w' => e = .returned (.int .i64 (j : Int)) ∧ Below (grow (redrawn W d) os).heap.size (grow (redrawn W d) os) w') := hide (fun d os => by rw [hj]; exact shardf_any _ k)
              have cqr := fun d os => cell_regrown (show W.cell? ⟨kb, 3, none⟩ = some (.int .u8 (bt k 0 : Int)) from HKey.out 0 _ (kC_head _)) d os
              have lk := HS.out.lt
              have HKR := hide (range_regrown HKey.out)
              clear hj HKey HS HPW HLW
              go_upto_region 17 with fail
              refine wp_region_quiet_below (by kernel_rfl) (by kernel_rfl) ?_
              quiet_step (fail)
              refine wpQuiet_val (kV k) rfl (fun w0 hw => ?_) ?_
              · obtain ⟨p0, rfl⟩ := hw
                exact run_loadO rfl rfl (run_ldK (HKR.out _ _))
              quiet_step (exact Calls.regrown_of (HC.out _ _))
              iterate 7 quiet_step (fail)
              refine wpQuiet_nil ?_
              intro w1 hw1
              have hb1 : RowKit.Below W.heap.size W w1 := below_of hw1
              have HB1 := hide (HB.out.trans (hb1.mono HB.out.size))
              have hwr : IntKind.i64.wrap ((bt k 0 : Nat) : Int) = ((bt k 0 : Nat) : Int) := by rw [IntKind.wrap_i64]; omega
              have HEJ : Hid (((j : Int) == (IntKind.i64.wrap ((bt k 0 : Nat) : Int)).tmod 16) = true) := hide (by rw [hwr, hjm]; simp)
              clear hw1 hb1 cqr lk ck hwr hjm
              go_wp2
              go_ret
              exact ⟨congrArg (fun b => Ending.returned (.bool b)) HEJ.out, HB1.out⟩
            · have b12 : (kd == 12) = false := by simpa using h12
              go_wp2
              go_ret
              exact ⟨rfl, HB.out⟩
end TX
end Go.Proofs.Ytdigjpddmfolgaa
