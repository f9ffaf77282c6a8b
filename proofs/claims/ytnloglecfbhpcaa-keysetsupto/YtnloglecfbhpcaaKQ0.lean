/- Sets that may be nil; Del. -/
import Derived.Test.YtnloglecfbhpcaaKB4
import Derived.Test.YtnloglecfbhpcaaKSQ
import Derived.Test.YtnloglecfbhpcaaXQs
import Derived.Test.YtnloglecfbhpcaaKS5
namespace Go.Proofs.Ytnloglecfbhpcaa
set_option linter.unusedVariables false
set_option linter.unusedSimpArgs false
open Go.RowKit Go.Sort Go.Shelf
open Go.Maps (Keyed)
set_option maxRecDepth 100000
set_option maxHeartbeats 4000000

/-- A set that may be nil. -/
def SetQ (w : World) (q : Option Addr) (S : List (List UInt8)) : Prop := (q = none ∧ S = []) ∨ ∃ z b, q = some ⟨z, 0, none⟩ ∧ SetAt w z b S
theorem SetQ.below {w w' : World} {q : Option Addr} {S : List (List UInt8)} (h : SetQ w q S) (hb : Below w.heap.size w w') : SetQ w' q S := by
  rcases h with h | ⟨z, b, e, h⟩
  · exact .inl h
  · exact .inr ⟨z, b, e, h.below hb⟩
theorem all_q (w : World) (q : Option Addr) (S : List (List UInt8)) (h : SetQ w q S) (hn : S.length ≤ 4398046510976) : Calls Try.prog 11 #[.pointer q] w (AllC w S) := by
  rcases h with ⟨rfl, rfl⟩ | ⟨z, b, rfl, h⟩
  · exact all_nil w
  · exact all_any w z b S h hn
theorem has_q (w : World) (q : Option Addr) (S : List (List UInt8)) (k : List UInt8) (hk : k.length = 32) (h : SetQ w q S) : Calls Try.prog 13 #[.pointer q, keyV k] w fun e w' => e = .returned (.bool (decide (k ∈ S))) ∧ Below w.heap.size w w' := by
  rcases h with ⟨rfl, rfl⟩ | ⟨z, b, rfl, h⟩
  · exact has_nil w k
  · exact has_any w z b S k hk h
theorem klen_q (w : World) (q : Option Addr) (S : List (List UInt8)) (h : SetQ w q S) : Calls Try.prog 12 #[.pointer q] w fun e w' => e = .returned (.int .i64 (S.length : Int)) ∧ w' = w := by
  rcases h with ⟨rfl, rfl⟩ | ⟨z, b, rfl, h⟩
  · exact klen_nil w
  · exact klen_any w z b S h
theorem next_nil (w : World) (after : List UInt8) (any : Bool) : Calls Try.prog 19 #[.pointer none, keyV after, .bool any] w (NextC w [] after any) := by
  have hzk := zero_key
  have HB : Hid (Below w.heap.size w ((w.alloc (.cells (after.map u8c).toArray 38)).alloc (.cells keyZ 38))) := hide (((Below.refl _ _).alloc (Nat.le_refl _) _).alloc (by simp) _)
  have HK : Hid (KeyAt ((w.alloc (.cells (after.map u8c).toArray 38)).alloc (.cells keyZ 38)) (w.heap.size + 1) (List.replicate 32 0)) := hide ⟨blk_made1 w _ _ _ _, rfl⟩
  show Calls Try.prog 19 #[.pointer none, .agg (after.map u8c).toArray, .bool any] w _
  go_enter Try.func19, Try.ntmps19
  have HZS : Hid (keyZ.size = 32) := hide rfl
  have HU1 : Hid (keyZ.all (·.oneCell') = true) := hide (all_oneCell_toArray (u8c_one _))
  have HK0 : Hid (Blk ((w.alloc (.cells (after.map u8c).toArray 38)).alloc (.cells keyZ 38)) (w.heap.size + 1) keyZ 38) := hide HK.out.1
  clear HK
  go_wp2_with ((with_reducible refine wpList_store_blk ?_ 38 (.tmp 6) (.tmp 13) ?_ (w.heap.size + 1) 32 keyZ keyZ 38 HZS.out HZS.out ?_ ?_ HK0.out infoKey HU1.out ?_); rfl; rfl; rfl; rfl; intro w9 hk9 hg9; have HK9 := hide hk9; have HG9 := hide hg9; clear hk9 hg9)
  refine bodyPost_ret (results_cell2 rfl _ _ _ rfl _ (loadBlkT HK9.out 38 _ Try.underlying38 rfl 32 infoKey HZS.out)) rfl ?_
  exact ⟨List.replicate 32 0, false, rfl, by simp, .inr ⟨rfl, rfl, fun x hx => by cases hx.2⟩, HB.out.trans (below_grownBy HG9.out (by omega) HB.out.size)⟩
theorem next_q (w : World) (q : Option Addr) (S : List (List UInt8)) (after : List UInt8) (any : Bool) (ha : after.length = 32) (h : SetQ w q S) : Calls Try.prog 19 #[.pointer q, keyV after, .bool any] w (NextC w S after any) := by
  rcases h with ⟨rfl, rfl⟩ | ⟨z, b, rfl, h⟩
  · exact next_nil w after any
  · exact next_any w z b S after any ha h
/-- A map's bound is what it holds. -/
theorem tight {w : World} {b n m : Nat} {D : DataW Unit} (h : w.ownsMap Try.prog 38 unitElem b n D) (hm : Maps.size D ≤ m) : w.ownsMap Try.prog 38 unitElem b m D := by
  obtain ⟨es, clock, hb, F, hs, rfl⟩ := h
  have hm2 : es.size ≤ m := by simpa [Maps.size, length_sorted] using hm
  exact ⟨es, clock, hb, F, hm2, rfl⟩
def dropK (k : List UInt8) (S : List (List UInt8)) : List (List UInt8) := S.filter fun y => !(y == k)
theorem mem_dropK (k : List UInt8) (S : List (List UInt8)) (x : List UInt8) : x ∈ dropK k S ↔ x ∈ S ∧ x ≠ k := by
  unfold dropK
  rw [List.mem_filter]
  simp
theorem dropK_nodup {k : List UInt8} {S : List (List UInt8)} (h : S.Nodup) : (dropK k S).Nodup := h.sublist List.filter_sublist
theorem dropK_len {k : List UInt8} {S : List (List UInt8)} (h : S.Nodup) (hk : k ∈ S) : (dropK k S).length + 1 = S.length := by
  have h1 : (k :: dropK k S).Nodup := List.nodup_cons.2 ⟨fun h => ((mem_dropK k S k).1 h).2 rfl, dropK_nodup h⟩
  have := same_len h1 h (fun x => by
    rw [List.mem_cons, mem_dropK]
    constructor
    · rintro (rfl | h)
      · exact hk
      · exact h.1
    · intro hx
      by_cases e : x = k
      · exact .inl e
      · exact .inr ⟨hx, e⟩)
  simpa using this
theorem KSet.drop {w : World} {b : Nat} {S : List (List UInt8)} (h : KSet w b S) (k : List UInt8) (hk : k.length = 32) (hin : k ∈ S) (hnd : S.Nodup) (ty : TypeId) :
    ∃ w', (Builtin.delete_ #[53, 38] ty #[.map (some b), keyV k]).run Try.prog w = .ok (.tuple #[]) w' ∧ KSet w' b (dropK k S) ∧ w.grownBy w' (some b) := by
  obtain ⟨D, h1, h2, h3⟩ := h
  obtain ⟨w', hr, ho, hg⟩ := h1.drop keyedK undMap (keyOf_key k hk) ty
  have hf : Maps.has D (.string k) = true := by rw [h2 k hk]; simpa using hin
  have hs := Maps.size_del (k := .string k) (h1.tidy keyedK)
  rw [hf, if_pos rfl, h3] at hs
  have hl := dropK_len hnd hin
  refine ⟨w', hr, ⟨_, tight ho (by omega), fun x hx => ?_, by omega⟩, hg.grown⟩
  by_cases e : x = k
  · subst e
    rw [Maps.has_del_same]
    have : x ∉ dropK x S := fun h => ((mem_dropK x S x).1 h).2 rfl
    simp [this]
  · rw [Maps.has_del_other (fun e2 => e (Lit.string.inj e2)), h2 x hx]
    have : x ∈ dropK k S ↔ x ∈ S := by rw [mem_dropK]; simp [e]
    simp [this]
/-- What Del leaves. -/
def DelC (w : World) (z b : Nat) (S : List (List UInt8)) (k : List UInt8) (e : Ending) (w' : World) : Prop := e = .returned (.bool (decide (k ∈ S))) ∧ SetAt w' z b (dropK k S) ∧ w.grownBy w' (some b)
theorem dropK_no {k : List UInt8} {S : List (List UInt8)} (h : k ∉ S) : dropK k S = S := by
  unfold dropK
  rw [List.filter_eq_self]
  intro y hy
  have : y ≠ k := fun e => h (e ▸ hy)
  simp [this]
theorem del_any (w : World) (z b : Nat) (S : List (List UInt8)) (k : List UInt8) (hk : k.length = 32) (h : SetAt w z b S) (hnd : S.Nodup) : Calls Try.prog 27 #[.pointer (some ⟨z, 0, none⟩), keyV k] w (DelC w z b S k) := by
  have hB : Below w.heap.size w (w.alloc (.cells (k.map u8c).toArray 38)) := (Below.refl _ _).alloc (Nat.le_refl _) _
  have HKX : Hid (KeyAt (w.alloc (.cells (k.map u8c).toArray 38)) w.heap.size k) := hide ⟨Blk.made w _ _, hk⟩
  have HS := hide (h.below hB)
  have HHs := hide (has_any _ z b S k hk HS.out)
  have HB := hide hB
  have HK := hide hk
  have HNd := hide hnd
  clear h hB hnd
  show Calls Try.prog 27 #[.pointer (some ⟨z, 0, none⟩), .agg (k.map u8c).toArray] w _
  by_cases hin : k ∈ S
  · rw [decide_eq_true hin] at HHs
    have HIn := hide hin
    clear hin
    go_enter Try.func27, Try.ntmps27
    go_upto_region 3 with (first | ((with_reducible refine wpList_key (.tmp 3) w.heap.size k HKX.out ?_ ?_ ?_ ?_); rfl; rfl; rfl) | (go_at_call 13; (with_reducible refine HHs.out.mono ?_); rintro e w1 ⟨rfl, hb1⟩; have HB1 := hide hb1; clear hb1))
    have HS1 := hide (HS.out.below HB1.out)
    have HKX1 := hide (HKX.out.below HB1.out)
    have HBB := hide (HB.out.trans (HB1.out.mono HB.out.size))
    have cz := fun d os => cell_regrown (show w1.cell? ⟨z, 0, none⟩ = some (.map (some b)) by rw [HS1.out.blk.cell]; rfl) d os
    have HKG := hide (range_regrown (range_blk HKX1.out.1))
    clear HHs HB HB1 HS HKX
    refine TX.wp_region_quiet_tail 5 (by kernel_rfl) (by kernel_rfl) ?_
    simp only [List.take_succ_cons, List.take_zero, List.drop_succ_cons, List.drop_zero]
    iterate 3 quiet_step (fail)
    refine wpQuiet_val (.map (some b)) rfl (fun w0 hw => ?_) ?_
    · obtain ⟨p0, rfl⟩ := hw
      exact run_load rfl rfl (loadAt_map (cz _ _))
    refine wpQuiet_val (keyV k) rfl (fun w0 hw => ?_) ?_
    · obtain ⟨p0, rfl⟩ := hw
      refine run_loadK rfl rfl HK.out ?_
      have := HKG.out p0.d p0.os
      rwa [List.toList_toArray] at this
    refine wpQuiet_nil ?_
    intro w2 hw2
    have hb2 : RowKit.Below w1.heap.size w1 w2 := below_of hw2
    have HS2 := hide (HS1.out.below hb2)
    have HBB2 := hide (HBB.out.trans (hb2.mono HBB.out.size))
    clear hw2 hb2 HS1 HKX1 HBB HKG cz
    obtain ⟨w3, hr, h3, hg⟩ := HS2.out.set.drop k HK.out HIn.out HNd.out 0
    have H3 := hide h3
    have HG := hide hg
    have hne := HS2.out.ne
    have hzb : Hid (Blk w3 z #[.map (some b)] 55) := hide (HS2.out.blk.grown hg (fun e => hne (Option.some.inj e)))
    clear h3 hg HS2 hne
    go_wp2
    go_ret
    exact ⟨by rw [decide_eq_true HIn.out]; rfl, ⟨hzb.out, H3.out⟩, grownBy_trans (grownBy_below HBB2.out) HG.out⟩
  · rw [decide_eq_false hin] at HHs
    have HIn := hide hin
    clear hin
    go_enter Try.func27, Try.ntmps27
    go_wp2_with (first | ((with_reducible refine wpList_key (.tmp 3) w.heap.size k HKX.out ?_ ?_ ?_ ?_); rfl; rfl; rfl) | (go_at_call 13; (with_reducible refine HHs.out.mono ?_); rintro e w1 ⟨rfl, hb1⟩; have HB1 := hide hb1; clear hb1))
    go_ret
    refine ⟨by rw [decide_eq_false HIn.out]; rfl, by rw [dropK_no HIn.out]; exact HS.out.below HB1.out, grownBy_below (HB.out.trans (HB1.out.mono HB.out.size))⟩
theorem del_nil (w : World) (k : List UInt8) (hk : k.length = 32) : Calls Try.prog 27 #[.pointer none, keyV k] w fun e w' => e = .returned (.bool false) ∧ Below w.heap.size w w' := by
  have hB : Below w.heap.size w (w.alloc (.cells (k.map u8c).toArray 38)) := (Below.refl _ _).alloc (Nat.le_refl _) _
  · have HKX : Hid (KeyAt (w.alloc (.cells (k.map u8c).toArray 38)) w.heap.size k) := hide ⟨Blk.made w _ _, hk⟩
    have HHs := hide (has_nil (w.alloc (.cells (k.map u8c).toArray 38)) k)
    have HB := hide hB
    clear hB
    show Calls Try.prog 27 #[.pointer none, .agg (k.map u8c).toArray] w _
    go_enter Try.func27, Try.ntmps27
    go_wp2_with (first | ((with_reducible refine wpList_key (.tmp 3) w.heap.size k HKX.out ?_ ?_ ?_ ?_); rfl; rfl; rfl) | (go_at_call 13; (with_reducible refine HHs.out.mono ?_); rintro e w1 ⟨rfl, hb1⟩; have HB1 := hide hb1; clear hb1))
    go_ret
    exact ⟨rfl, HB.out.trans (HB1.out.mono HB.out.size)⟩
end Go.Proofs.Ytnloglecfbhpcaa
