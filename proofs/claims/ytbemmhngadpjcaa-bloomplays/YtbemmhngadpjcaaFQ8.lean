/- BloomPlays: a step done: joined or met, told, a new one, and what is no kind. -/
import Derived.Test.YtbemmhngadpjcaaFQ7
import Derived.Test.YtbemmhngadpjcaaFQ6b
namespace Go.Proofs.Ytbemmhngadpjcaa
set_option linter.unusedVariables false
set_option linter.unusedSimpArgs false
open Go.RowKit

def tyP (ty : TypeId) : Prop := ty ≠ 84 ∧ ty ≠ 80 ∧ ty ≠ 71 ∧ ty ≠ 4
theorem SlOk.grownX {w w' : World} {s : Sl} {g : Nat} {cs : Array Value} {ty : TypeId} (k : SlOk w s) (hg : w.grownBy w' (some g)) (hB : Blk w g cs ty) (ht : tyP ty) : SlOk w' s := by
  obtain ⟨cur, hc⟩ := k.r.gb'
  exact ⟨k.f.grown hg (snn (blk_ne k.f.zb hB ht.1.symm)) (snn (blk_ne k.f.gb hB ht.2.1.symm)), k.r.grown hg (snn (blk_ne k.r.zb hB ht.2.2.1.symm)) (snn (blk_ne hc hB ht.2.2.2.symm))⟩
theorem PQ.grownX {w0 w w' : World} {s t : Option Sl} {g : Nat} {cs : Array Value} {ty : TypeId} (p : PQ w0 w s t) (hg : w.grownBy w' (some g)) (hB : Blk w g cs ty) (ht : tyP ty) (hl : w0.heap.size ≤ g) : PQ w0 w' s t := by
  refine ⟨?_, ?_, p.ap, p.la, p.lb, p.bel.trans (below_grownBy (B := w0.heap.size) hg hl p.bel.size)⟩
  · cases s with
    | none => trivial
    | some s => exact SlOk.grownX p.a hg hB ht
  · cases t with
    | none => trivial
    | some t => exact SlOk.grownX p.b hg hB ht
theorem tpPair : tyP 30 := by unfold tyP; decide
theorem tpU8 : tyP 5 := by unfold tyP; decide
set_option maxRecDepth 20000 in
set_option maxHeartbeats 8000000 in
theorem done_join0 (w0 w : World) (q : Nat) (s t : Option Sl) (SC : Array Value) (F B H : Int) (kb : List UInt8) (sa : StepAt SC 3 F B H kb) (hF : bits .and .i64 F 1 = 0) (p : PQ w0 w s t) (hs : syO s) (ht : syO t) (hq : Blk w q (cells2 0 s t) 30) : Calls Try.prog 11 #[.slice (some ⟨q, 0, none⟩) 2 2, .agg SC] w (DoneC w0 w q 0 t) := by
  obtain ⟨W1, hW1⟩ : ∃ W1, W1 = w.alloc (.cells SC 38) := ⟨_, rfl⟩
  have hb1 : Below w.heap.size w W1 := by rw [hW1]; exact (Below.refl _ _).alloc (Nat.le_refl _) _
  have hk1 : Blk W1 w.heap.size SC 38 := by rw [hW1]; exact Blk.made w _ _
  have hs1 : W1.heap.size = w.heap.size + 1 := by rw [hW1, World.size_alloc]
  have hq1 := hq.below hb1 hq.lt
  have c1 : W1.cell? ⟨w.heap.size, 1, none⟩ = some (.int .i64 F) := (hk1.cell 1).trans sa.c1
  have d0 : W1.cell? ⟨q, 0, none⟩ = some (.pointer (ptF s)) := hq1.cell 0
  have d1 : W1.cell? ⟨q, 1, none⟩ = some (.pointer (ptR s)) := hq1.cell 1
  obtain ⟨W3, hW3⟩ : ∃ W3, W3 = W1.alloc (.cells #[.pointer (ptF s), .pointer (ptR s)] 30) := ⟨_, rfl⟩
  have hb3 : Below W1.heap.size W1 W3 := by rw [hW3]; exact (Below.refl _ _).alloc (Nat.le_refl _) _
  have hd3 : DS W3 w.heap.size (w.heap.size + 1) SC (.pointer (ptF s)) (.pointer (ptR s)) := ⟨hk1.below hb3 hk1.lt, by rw [hW3, ← hs1]; exact Blk.made W1 _ _⟩
  have hbw : Below w.heap.size w W3 := hb1.trans (hb3.mono hb1.size)
  have HQ := hide (hq.below hbw hq.lt)
  have HD := hide hd3
  have HP := hide (p.below hbw)
  have HBw := hide hbw
  have HSY := hide (And.intro hs ht)
  have e0 : W3.cell? ⟨w.heap.size, 0, none⟩ = some (.int .i64 3) := (hd3.st.cell 0).trans sa.c0
  have e1 : W3.cell? ⟨w.heap.size + 1, 0, none⟩ = some (.pointer (ptF s)) := hd3.pr.cell 0
  have e2 : W3.cell? ⟨w.heap.size + 1, 1, none⟩ = some (.pointer (ptR s)) := hd3.pr.cell 1
  have n1 := eqNilR
  have n2 := eqSomeR
  have HSA := hide sa
  have HKey := hide (key_range hd3.st sa)
  have HK32 : Hid ((kb.map u8c).length = 32) := hide (by rw [List.length_map]; exact sa.k32)
  have x0 : W3.cell? ⟨q, 2, none⟩ = some (.pointer (ptF t)) := HQ.out.cell 2
  have x1 : W3.cell? ⟨q, 3, none⟩ = some (.pointer (ptR t)) := HQ.out.cell 3
  have C := hide (with_any w0 W3.drew s t false (HP.out.below (below_drewN' (Below.refl _ _) 1)) hs ht)
  clear hb1 hk1 hs1 hq1 hb3 hd3 hbw p hq hs ht sa
  go_enter Try.func11, Try.ntmps11
  rw [hW1] at hW3
  rw [hW3] at e0 e1 e2
  rw [hW1] at c1 d0 d1
  clear x0 x1
  go_wp2
  rw [← hW3]
  refine dw03_walk _ (fun _ _ _ _ _ h => h) W3 w.heap.size (w.heap.size + 1) q SC F B H kb s t _ (fun w' h => by obtain ⟨s', _, _, _, _, hk⟩ := h; exact hk) HSA.out ⟨HD.out, HQ.out⟩ C.out _ (Nat.lt_of_sub_pos (by exact Nat.succ_pos _)) rfl rfl rfl rfl ?_
  rintro w4 ⟨s', hs4, hf4, hr4, hp4, hk4⟩
  have HP4 := hide hp4
  have HS4 := hide hs4
  have HK4 : Hid (KeepT W3 w4) := hide ((KeepT.below (below_drewN' (Below.refl _ _) 1)).trans hk4)
  have HQ4 : Hid (Blk w4 q (cells2 0 s' t) 30) := hide (by
    have := HK4.out.blk _ _ _ (.inl rfl) HQ.out
    have e : cells2 0 s' t = cells2 0 s t := by simp only [cells2, hf4, hr4]
    rw [e]
    exact this)
  clear hp4 hs4 hk4 hf4 hr4 hW1 hW3 c1 d0 d1 e0 e1 e2 HP HQ HD HKey C
  simp only [Act.put, List.setIfInBounds_toArray, List.set_cons_zero, List.set_cons_succ]
  go_wp2
  go_ret
  exact ⟨rfl, s', HS4.out, HP4.out, HQ4.out, fun b cs hb => HK4.out.blk _ _ _ (.inr (.inr rfl)) (hb.below HBw.out hb.lt)⟩
set_option maxRecDepth 20000 in
set_option maxHeartbeats 8000000 in
theorem done_meet0 (w0 w : World) (q : Nat) (s t : Option Sl) (SC : Array Value) (F B H : Int) (kb : List UInt8) (sa : StepAt SC 4 F B H kb) (hF : bits .and .i64 F 1 = 0) (p : PQ w0 w s t) (hs : syO s) (ht : syO t) (hq : Blk w q (cells2 0 s t) 30) : Calls Try.prog 11 #[.slice (some ⟨q, 0, none⟩) 2 2, .agg SC] w (DoneC w0 w q 0 t) := by
  obtain ⟨W1, hW1⟩ : ∃ W1, W1 = w.alloc (.cells SC 38) := ⟨_, rfl⟩
  have hb1 : Below w.heap.size w W1 := by rw [hW1]; exact (Below.refl _ _).alloc (Nat.le_refl _) _
  have hk1 : Blk W1 w.heap.size SC 38 := by rw [hW1]; exact Blk.made w _ _
  have hs1 : W1.heap.size = w.heap.size + 1 := by rw [hW1, World.size_alloc]
  have hq1 := hq.below hb1 hq.lt
  have c1 : W1.cell? ⟨w.heap.size, 1, none⟩ = some (.int .i64 F) := (hk1.cell 1).trans sa.c1
  have d0 : W1.cell? ⟨q, 0, none⟩ = some (.pointer (ptF s)) := hq1.cell 0
  have d1 : W1.cell? ⟨q, 1, none⟩ = some (.pointer (ptR s)) := hq1.cell 1
  obtain ⟨W3, hW3⟩ : ∃ W3, W3 = W1.alloc (.cells #[.pointer (ptF s), .pointer (ptR s)] 30) := ⟨_, rfl⟩
  have hb3 : Below W1.heap.size W1 W3 := by rw [hW3]; exact (Below.refl _ _).alloc (Nat.le_refl _) _
  have hd3 : DS W3 w.heap.size (w.heap.size + 1) SC (.pointer (ptF s)) (.pointer (ptR s)) := ⟨hk1.below hb3 hk1.lt, by rw [hW3, ← hs1]; exact Blk.made W1 _ _⟩
  have hbw : Below w.heap.size w W3 := hb1.trans (hb3.mono hb1.size)
  have HQ := hide (hq.below hbw hq.lt)
  have HD := hide hd3
  have HP := hide (p.below hbw)
  have HBw := hide hbw
  have HSY := hide (And.intro hs ht)
  have e0 : W3.cell? ⟨w.heap.size, 0, none⟩ = some (.int .i64 4) := (hd3.st.cell 0).trans sa.c0
  have e1 : W3.cell? ⟨w.heap.size + 1, 0, none⟩ = some (.pointer (ptF s)) := hd3.pr.cell 0
  have e2 : W3.cell? ⟨w.heap.size + 1, 1, none⟩ = some (.pointer (ptR s)) := hd3.pr.cell 1
  have n1 := eqNilR
  have n2 := eqSomeR
  have HSA := hide sa
  have HKey := hide (key_range hd3.st sa)
  have HK32 : Hid ((kb.map u8c).length = 32) := hide (by rw [List.length_map]; exact sa.k32)
  have x0 : W3.cell? ⟨q, 2, none⟩ = some (.pointer (ptF t)) := HQ.out.cell 2
  have x1 : W3.cell? ⟨q, 3, none⟩ = some (.pointer (ptR t)) := HQ.out.cell 3
  have C := hide (with_any w0 W3.drew s t true (HP.out.below (below_drewN' (Below.refl _ _) 1)) hs ht)
  clear hb1 hk1 hs1 hq1 hb3 hd3 hbw p hq hs ht sa
  go_enter Try.func11, Try.ntmps11
  rw [hW1] at hW3
  rw [hW3] at e0 e1 e2
  rw [hW1] at c1 d0 d1
  clear x0 x1
  go_wp2
  rw [← hW3]
  refine dw04_walk _ (fun _ _ _ _ _ h => h) W3 w.heap.size (w.heap.size + 1) q SC F B H kb s t _ (fun w' h => by obtain ⟨s', _, _, _, _, hk⟩ := h; exact hk) HSA.out ⟨HD.out, HQ.out⟩ C.out _ (Nat.lt_of_sub_pos (by exact Nat.succ_pos _)) rfl rfl rfl rfl ?_
  rintro w4 ⟨s', hs4, hf4, hr4, hp4, hk4⟩
  have HP4 := hide hp4
  have HS4 := hide hs4
  have HK4 : Hid (KeepT W3 w4) := hide ((KeepT.below (below_drewN' (Below.refl _ _) 1)).trans hk4)
  have HQ4 : Hid (Blk w4 q (cells2 0 s' t) 30) := hide (by
    have := HK4.out.blk _ _ _ (.inl rfl) HQ.out
    have e : cells2 0 s' t = cells2 0 s t := by simp only [cells2, hf4, hr4]
    rw [e]
    exact this)
  clear hp4 hs4 hk4 hf4 hr4 hW1 hW3 c1 d0 d1 e0 e1 e2 HP HQ HD HKey C
  simp only [Act.put, List.setIfInBounds_toArray, List.set_cons_zero, List.set_cons_succ]
  go_wp2
  go_ret
  exact ⟨rfl, s', HS4.out, HP4.out, HQ4.out, fun b cs hb => HK4.out.blk _ _ _ (.inr (.inr rfl)) (hb.below HBw.out hb.lt)⟩
set_option maxRecDepth 20000 in
set_option maxHeartbeats 8000000 in
theorem done_told0 (w0 w : World) (q : Nat) (s t : Option Sl) (SC : Array Value) (F B H : Int) (kb : List UInt8) (sa : StepAt SC 5 F B H kb) (hF : bits .and .i64 F 1 = 0) (p : PQ w0 w s t) (hs : syO s) (ht : syO t) (hq : Blk w q (cells2 0 s t) 30) : Calls Try.prog 11 #[.slice (some ⟨q, 0, none⟩) 2 2, .agg SC] w (DoneC w0 w q 0 t) := by
  obtain ⟨W1, hW1⟩ : ∃ W1, W1 = w.alloc (.cells SC 38) := ⟨_, rfl⟩
  have hb1 : Below w.heap.size w W1 := by rw [hW1]; exact (Below.refl _ _).alloc (Nat.le_refl _) _
  have hk1 : Blk W1 w.heap.size SC 38 := by rw [hW1]; exact Blk.made w _ _
  have hs1 : W1.heap.size = w.heap.size + 1 := by rw [hW1, World.size_alloc]
  have hq1 := hq.below hb1 hq.lt
  have c1 : W1.cell? ⟨w.heap.size, 1, none⟩ = some (.int .i64 F) := (hk1.cell 1).trans sa.c1
  have d0 : W1.cell? ⟨q, 0, none⟩ = some (.pointer (ptF s)) := hq1.cell 0
  have d1 : W1.cell? ⟨q, 1, none⟩ = some (.pointer (ptR s)) := hq1.cell 1
  obtain ⟨W3, hW3⟩ : ∃ W3, W3 = W1.alloc (.cells #[.pointer (ptF s), .pointer (ptR s)] 30) := ⟨_, rfl⟩
  have hb3 : Below W1.heap.size W1 W3 := by rw [hW3]; exact (Below.refl _ _).alloc (Nat.le_refl _) _
  have hd3 : DS W3 w.heap.size (w.heap.size + 1) SC (.pointer (ptF s)) (.pointer (ptR s)) := ⟨hk1.below hb3 hk1.lt, by rw [hW3, ← hs1]; exact Blk.made W1 _ _⟩
  have hbw : Below w.heap.size w W3 := hb1.trans (hb3.mono hb1.size)
  have HQ := hide (hq.below hbw hq.lt)
  have HD := hide hd3
  have HP := hide (p.below hbw)
  have HBw := hide hbw
  have HSY := hide (And.intro hs ht)
  have e0 : W3.cell? ⟨w.heap.size, 0, none⟩ = some (.int .i64 5) := (hd3.st.cell 0).trans sa.c0
  have e1 : W3.cell? ⟨w.heap.size + 1, 0, none⟩ = some (.pointer (ptF s)) := hd3.pr.cell 0
  have e2 : W3.cell? ⟨w.heap.size + 1, 1, none⟩ = some (.pointer (ptR s)) := hd3.pr.cell 1
  have n1 := eqNilR
  have n2 := eqSomeR
  have HSA := hide sa
  have HKey := hide (key_range hd3.st sa)
  have HK32 : Hid ((kb.map u8c).length = 32) := hide (by rw [List.length_map]; exact sa.k32)
  have C := hide (told_any W3 s HP.out.a hs)
  clear hb1 hk1 hs1 hq1 hb3 hd3 hbw p hq hs ht sa
  go_enter Try.func11, Try.ntmps11
  rw [hW1] at hW3
  rw [hW3] at e0 e1 e2
  rw [hW1] at c1 d0 d1
  go_wp2_with fail
  rw [← hW3]
  refine C.out.mono ?_
  rintro e w4 ⟨rfl, hb4⟩
  have HP4 := hide (HP.out.below hb4)
  have HQ4 := hide (HQ.out.below hb4 HQ.out.lt)
  have HBw4 := hide (HBw.out.trans (hb4.mono HBw.out.size))
  clear hW1 hW3 c1 d0 d1 e0 e1 e2 hb4 HP HQ HD HKey C
  go_wp2
  go_ret
  exact ⟨rfl, s, HSY.out.1, HP4.out, HQ4.out, fun b cs hb => hb.below HBw4.out hb.lt⟩
set_option maxRecDepth 20000 in
set_option maxHeartbeats 8000000 in
theorem done_other0 (w0 w : World) (q : Nat) (s t : Option Sl) (SC : Array Value) (K : Int) (F B H : Int) (kb : List UInt8) (sa : StepAt SC K F B H kb) (hF : bits .and .i64 F 1 = 0) (p : PQ w0 w s t) (hs : syO s) (ht : syO t) (hq : Blk w q (cells2 0 s t) 30) (hK : ∀ n : Int, 1 ≤ n → n ≤ 8 → K ≠ n) : Calls Try.prog 11 #[.slice (some ⟨q, 0, none⟩) 2 2, .agg SC] w (DoneC w0 w q 0 t) := by
  obtain ⟨W1, hW1⟩ : ∃ W1, W1 = w.alloc (.cells SC 38) := ⟨_, rfl⟩
  have hb1 : Below w.heap.size w W1 := by rw [hW1]; exact (Below.refl _ _).alloc (Nat.le_refl _) _
  have hk1 : Blk W1 w.heap.size SC 38 := by rw [hW1]; exact Blk.made w _ _
  have hs1 : W1.heap.size = w.heap.size + 1 := by rw [hW1, World.size_alloc]
  have hq1 := hq.below hb1 hq.lt
  have c1 : W1.cell? ⟨w.heap.size, 1, none⟩ = some (.int .i64 F) := (hk1.cell 1).trans sa.c1
  have d0 : W1.cell? ⟨q, 0, none⟩ = some (.pointer (ptF s)) := hq1.cell 0
  have d1 : W1.cell? ⟨q, 1, none⟩ = some (.pointer (ptR s)) := hq1.cell 1
  obtain ⟨W3, hW3⟩ : ∃ W3, W3 = W1.alloc (.cells #[.pointer (ptF s), .pointer (ptR s)] 30) := ⟨_, rfl⟩
  have hb3 : Below W1.heap.size W1 W3 := by rw [hW3]; exact (Below.refl _ _).alloc (Nat.le_refl _) _
  have hd3 : DS W3 w.heap.size (w.heap.size + 1) SC (.pointer (ptF s)) (.pointer (ptR s)) := ⟨hk1.below hb3 hk1.lt, by rw [hW3, ← hs1]; exact Blk.made W1 _ _⟩
  have hbw : Below w.heap.size w W3 := hb1.trans (hb3.mono hb1.size)
  have HQ := hide (hq.below hbw hq.lt)
  have HD := hide hd3
  have HP := hide (p.below hbw)
  have HBw := hide hbw
  have HSY := hide (And.intro hs ht)
  have e0 : W3.cell? ⟨w.heap.size, 0, none⟩ = some (.int .i64 K) := (hd3.st.cell 0).trans sa.c0
  have e1 : W3.cell? ⟨w.heap.size + 1, 0, none⟩ = some (.pointer (ptF s)) := hd3.pr.cell 0
  have e2 : W3.cell? ⟨w.heap.size + 1, 1, none⟩ = some (.pointer (ptR s)) := hd3.pr.cell 1
  have n1 := eqNilR
  have n2 := eqSomeR
  have HSA := hide sa
  have HKey := hide (key_range hd3.st sa)
  have HK32 : Hid ((kb.map u8c).length = 32) := hide (by rw [List.length_map]; exact sa.k32)
  have k1 : ¬ K = 1 := hK 1 (by decide) (by decide)
  have k2 : ¬ K = 2 := hK 2 (by decide) (by decide)
  have k3 : ¬ K = 3 := hK 3 (by decide) (by decide)
  have k4 : ¬ K = 4 := hK 4 (by decide) (by decide)
  have k5 : ¬ K = 5 := hK 5 (by decide) (by decide)
  have k6 : ¬ K = 6 := hK 6 (by decide) (by decide)
  have k7 : ¬ K = 7 := hK 7 (by decide) (by decide)
  have k8 : ¬ K = 8 := hK 8 (by decide) (by decide)
  clear hK
  clear hb1 hk1 hs1 hq1 hb3 hd3 hbw p hq hs ht sa
  go_enter Try.func11, Try.ntmps11
  rw [hW1] at hW3
  rw [hW3] at e0 e1 e2
  rw [hW1] at c1 d0 d1
  go_wp2
  go_ret
  rw [← hW3]
  exact ⟨rfl, s, HSY.out.1, HP.out, HQ.out, fun b cs hb => hb.below HBw.out hb.lt⟩
set_option maxRecDepth 20000 in
set_option maxHeartbeats 8000000 in
theorem done_new0 (w0 w : World) (q : Nat) (s t : Option Sl) (SC : Array Value) (F B H : Int) (kb : List UInt8) (sa : StepAt SC 8 F B H kb) (hF : bits .and .i64 F 1 = 0) (p : PQ w0 w s t) (hs : syO s) (ht : syO t) (hq : Blk w q (cells2 0 s t) 30) (hlo : w0.heap.size ≤ q) : Calls Try.prog 11 #[.slice (some ⟨q, 0, none⟩) 2 2, .agg SC] w (DoneC w0 w q 0 t) := by
  obtain ⟨W1, hW1⟩ : ∃ W1, W1 = w.alloc (.cells SC 38) := ⟨_, rfl⟩
  have hb1 : Below w.heap.size w W1 := by rw [hW1]; exact (Below.refl _ _).alloc (Nat.le_refl _) _
  have hk1 : Blk W1 w.heap.size SC 38 := by rw [hW1]; exact Blk.made w _ _
  have hs1 : W1.heap.size = w.heap.size + 1 := by rw [hW1, World.size_alloc]
  have hq1 := hq.below hb1 hq.lt
  have c1 : W1.cell? ⟨w.heap.size, 1, none⟩ = some (.int .i64 F) := (hk1.cell 1).trans sa.c1
  have d0 : W1.cell? ⟨q, 0, none⟩ = some (.pointer (ptF s)) := hq1.cell 0
  have d1 : W1.cell? ⟨q, 1, none⟩ = some (.pointer (ptR s)) := hq1.cell 1
  obtain ⟨W3, hW3⟩ : ∃ W3, W3 = W1.alloc (.cells #[.pointer (ptF s), .pointer (ptR s)] 30) := ⟨_, rfl⟩
  have hb3 : Below W1.heap.size W1 W3 := by rw [hW3]; exact (Below.refl _ _).alloc (Nat.le_refl _) _
  have hd3 : DS W3 w.heap.size (w.heap.size + 1) SC (.pointer (ptF s)) (.pointer (ptR s)) := ⟨hk1.below hb3 hk1.lt, by rw [hW3, ← hs1]; exact Blk.made W1 _ _⟩
  have hbw : Below w.heap.size w W3 := hb1.trans (hb3.mono hb1.size)
  have HQ := hide (hq.below hbw hq.lt)
  have HD := hide hd3
  have HP := hide (p.below hbw)
  have HBw := hide hbw
  have HSY := hide (And.intro hs ht)
  have e0 : W3.cell? ⟨w.heap.size, 0, none⟩ = some (.int .i64 8) := (hd3.st.cell 0).trans sa.c0
  have e1 : W3.cell? ⟨w.heap.size + 1, 0, none⟩ = some (.pointer (ptF s)) := hd3.pr.cell 0
  have e2 : W3.cell? ⟨w.heap.size + 1, 1, none⟩ = some (.pointer (ptR s)) := hd3.pr.cell 1
  have n1 := eqNilR
  have n2 := eqSomeR
  have HSA := hide sa
  have HKey := hide (key_range hd3.st sa)
  have HK32 : Hid ((kb.map u8c).length = 32) := hide (by rw [List.length_map]; exact sa.k32)
  have x0 : W3.cell? ⟨w.heap.size, 34, none⟩ = some (.int .i64 B) := (hd3.st.cell 34).trans sa.cB
  have x1 : W3.cell? ⟨w.heap.size, 35, none⟩ = some (.int .i64 H) := (hd3.st.cell 35).trans sa.cH
  have C := hide (made_any W3 B H)
  clear hb1 hk1 hs1 hq1 hb3 hd3 hbw p hq hs ht sa
  go_enter Try.func11, Try.ntmps11
  rw [hW1] at hW3
  rw [hW3] at e0 e1 e2
  rw [hW1] at c1 d0 d1
  rw [hW3] at x0 x1
  go_wp2_with fail
  rw [← hW3]
  refine C.out.mono ?_
  rintro e w4 ⟨n, rfl, hok, hsy, hlo4, hb4⟩
  obtain ⟨u1, hu1⟩ : ∃ v, v = ptF n := ⟨_, rfl⟩
  obtain ⟨u2, hu2⟩ : ∃ v, v = ptR n := ⟨_, rfl⟩
  have HP4 : Hid (PQ w0 w4 n t) := hide (by
    cases n with
    | none => exact HP.out.gone hb4
    | some n => exact HP.out.made hb4 hok hlo4)
  have hq4 := HQ.out.below hb4 HQ.out.lt
  have HBw4 := hide (HBw.out.trans (hb4.mono HBw.out.size))
  obtain ⟨W5, hW5⟩ : ∃ W5, W5 = w4.alloc (.cells #[.pointer u1, .pointer u2] 30) := ⟨_, rfl⟩
  have hb5 : Below w4.heap.size w4 W5 := by rw [hW5]; exact (Below.refl _ _).alloc (Nat.le_refl _) _
  have hq5 := hq4.below hb5 hq4.lt
  have y0 : W5.cell? ⟨q, 0, none⟩ = some (.pointer (ptF s)) := hq5.cell 0
  have y1 : W5.cell? ⟨q, 1, none⟩ = some (.pointer (ptR s)) := hq5.cell 1
  have z0 : W5.frozen? ⟨q, 0, none⟩ = false := hq5.frozen 0
  have z1 : W5.frozen? ⟨q, 1, none⟩ = false := hq5.frozen 1
  have HP5 := hide (HP4.out.below hb5)
  have HBw5 := hide (HBw4.out.trans (hb5.mono HBw4.out.size))
  have HQ5 := hide hq5
  have HSy := hide hsy
  have HU := hide (And.intro hu1 hu2)
  unfold slF slR
  rw [← hu1, ← hu2]
  rw [hW5] at y0 y1 z0 z1
  clear hok hsy hlo4 hb4 hq4 hb5 hq5 hu1 hu2 hW1 hW3 c1 d0 d1 e0 e1 e2 x0 x1 HP HQ HD HKey C HP4 HBw4
  go_wp2
  go_ret
  rw [← hW5]
  have hg : W5.grownBy ((W5.setCell ⟨q, 0, none⟩ (.pointer u1)).setCell ⟨q, 1, none⟩ (.pointer u2)) (some q) := grownBy_trans (grownBy_set _ _ _ _) (grownBy_set _ _ _ _)
  refine ⟨rfl, n, HSy.out, HP5.out.grownX hg HQ5.out tpPair hlo, ?_, fun b cs hb => ?_⟩
  · have := (HQ5.out.set 0 (.pointer u1)).set 1 (.pointer u2)
    rw [HU.out.1, HU.out.2] at this ⊢
    exact this
  · have h1 := hb.below HBw5.out hb.lt
    exact h1.grown hg (snn (blk_ne h1 HQ5.out (by decide)))
set_option maxRecDepth 20000 in
set_option maxHeartbeats 8000000 in
theorem done_join1 (w0 w : World) (q : Nat) (s t : Option Sl) (SC : Array Value) (F B H : Int) (kb : List UInt8) (sa : StepAt SC 3 F B H kb) (hF : bits .and .i64 F 1 = 1) (p : PQ w0 w s t) (hs : syO s) (ht : syO t) (hq : Blk w q (cells2 1 s t) 30) : Calls Try.prog 11 #[.slice (some ⟨q, 0, none⟩) 2 2, .agg SC] w (DoneC w0 w q 1 t) := by
  obtain ⟨W1, hW1⟩ : ∃ W1, W1 = w.alloc (.cells SC 38) := ⟨_, rfl⟩
  have hb1 : Below w.heap.size w W1 := by rw [hW1]; exact (Below.refl _ _).alloc (Nat.le_refl _) _
  have hk1 : Blk W1 w.heap.size SC 38 := by rw [hW1]; exact Blk.made w _ _
  have hs1 : W1.heap.size = w.heap.size + 1 := by rw [hW1, World.size_alloc]
  have hq1 := hq.below hb1 hq.lt
  have c1 : W1.cell? ⟨w.heap.size, 1, none⟩ = some (.int .i64 F) := (hk1.cell 1).trans sa.c1
  have d0 : W1.cell? ⟨q, 2, none⟩ = some (.pointer (ptF s)) := hq1.cell 2
  have d1 : W1.cell? ⟨q, 3, none⟩ = some (.pointer (ptR s)) := hq1.cell 3
  obtain ⟨W3, hW3⟩ : ∃ W3, W3 = W1.alloc (.cells #[.pointer (ptF s), .pointer (ptR s)] 30) := ⟨_, rfl⟩
  have hb3 : Below W1.heap.size W1 W3 := by rw [hW3]; exact (Below.refl _ _).alloc (Nat.le_refl _) _
  have hd3 : DS W3 w.heap.size (w.heap.size + 1) SC (.pointer (ptF s)) (.pointer (ptR s)) := ⟨hk1.below hb3 hk1.lt, by rw [hW3, ← hs1]; exact Blk.made W1 _ _⟩
  have hbw : Below w.heap.size w W3 := hb1.trans (hb3.mono hb1.size)
  have HQ := hide (hq.below hbw hq.lt)
  have HD := hide hd3
  have HP := hide (p.below hbw)
  have HBw := hide hbw
  have HSY := hide (And.intro hs ht)
  have e0 : W3.cell? ⟨w.heap.size, 0, none⟩ = some (.int .i64 3) := (hd3.st.cell 0).trans sa.c0
  have e1 : W3.cell? ⟨w.heap.size + 1, 0, none⟩ = some (.pointer (ptF s)) := hd3.pr.cell 0
  have e2 : W3.cell? ⟨w.heap.size + 1, 1, none⟩ = some (.pointer (ptR s)) := hd3.pr.cell 1
  have n1 := eqNilR
  have n2 := eqSomeR
  have HSA := hide sa
  have HKey := hide (key_range hd3.st sa)
  have HK32 : Hid ((kb.map u8c).length = 32) := hide (by rw [List.length_map]; exact sa.k32)
  have x0 : W3.cell? ⟨q, 0, none⟩ = some (.pointer (ptF t)) := HQ.out.cell 0
  have x1 : W3.cell? ⟨q, 1, none⟩ = some (.pointer (ptR t)) := HQ.out.cell 1
  have C := hide (with_any w0 W3.drew s t false (HP.out.below (below_drewN' (Below.refl _ _) 1)) hs ht)
  clear hb1 hk1 hs1 hq1 hb3 hd3 hbw p hq hs ht sa
  go_enter Try.func11, Try.ntmps11
  rw [hW1] at hW3
  rw [hW3] at e0 e1 e2
  rw [hW1] at c1 d0 d1
  clear x0 x1
  go_wp2
  rw [← hW3]
  refine dw13_walk _ (fun _ _ _ _ _ h => h) W3 w.heap.size (w.heap.size + 1) q SC F B H kb s t _ (fun w' h => by obtain ⟨s', _, _, _, _, hk⟩ := h; exact hk) HSA.out ⟨HD.out, HQ.out⟩ C.out _ (Nat.lt_of_sub_pos (by exact Nat.succ_pos _)) rfl rfl rfl rfl ?_
  rintro w4 ⟨s', hs4, hf4, hr4, hp4, hk4⟩
  have HP4 := hide hp4
  have HS4 := hide hs4
  have HK4 : Hid (KeepT W3 w4) := hide ((KeepT.below (below_drewN' (Below.refl _ _) 1)).trans hk4)
  have HQ4 : Hid (Blk w4 q (cells2 1 s' t) 30) := hide (by
    have := HK4.out.blk _ _ _ (.inl rfl) HQ.out
    have e : cells2 1 s' t = cells2 1 s t := by simp only [cells2, hf4, hr4]
    rw [e]
    exact this)
  clear hp4 hs4 hk4 hf4 hr4 hW1 hW3 c1 d0 d1 e0 e1 e2 HP HQ HD HKey C
  simp only [Act.put, List.setIfInBounds_toArray, List.set_cons_zero, List.set_cons_succ]
  go_wp2
  go_ret
  exact ⟨rfl, s', HS4.out, HP4.out, HQ4.out, fun b cs hb => HK4.out.blk _ _ _ (.inr (.inr rfl)) (hb.below HBw.out hb.lt)⟩
set_option maxRecDepth 20000 in
set_option maxHeartbeats 8000000 in
theorem done_meet1 (w0 w : World) (q : Nat) (s t : Option Sl) (SC : Array Value) (F B H : Int) (kb : List UInt8) (sa : StepAt SC 4 F B H kb) (hF : bits .and .i64 F 1 = 1) (p : PQ w0 w s t) (hs : syO s) (ht : syO t) (hq : Blk w q (cells2 1 s t) 30) : Calls Try.prog 11 #[.slice (some ⟨q, 0, none⟩) 2 2, .agg SC] w (DoneC w0 w q 1 t) := by
  obtain ⟨W1, hW1⟩ : ∃ W1, W1 = w.alloc (.cells SC 38) := ⟨_, rfl⟩
  have hb1 : Below w.heap.size w W1 := by rw [hW1]; exact (Below.refl _ _).alloc (Nat.le_refl _) _
  have hk1 : Blk W1 w.heap.size SC 38 := by rw [hW1]; exact Blk.made w _ _
  have hs1 : W1.heap.size = w.heap.size + 1 := by rw [hW1, World.size_alloc]
  have hq1 := hq.below hb1 hq.lt
  have c1 : W1.cell? ⟨w.heap.size, 1, none⟩ = some (.int .i64 F) := (hk1.cell 1).trans sa.c1
  have d0 : W1.cell? ⟨q, 2, none⟩ = some (.pointer (ptF s)) := hq1.cell 2
  have d1 : W1.cell? ⟨q, 3, none⟩ = some (.pointer (ptR s)) := hq1.cell 3
  obtain ⟨W3, hW3⟩ : ∃ W3, W3 = W1.alloc (.cells #[.pointer (ptF s), .pointer (ptR s)] 30) := ⟨_, rfl⟩
  have hb3 : Below W1.heap.size W1 W3 := by rw [hW3]; exact (Below.refl _ _).alloc (Nat.le_refl _) _
  have hd3 : DS W3 w.heap.size (w.heap.size + 1) SC (.pointer (ptF s)) (.pointer (ptR s)) := ⟨hk1.below hb3 hk1.lt, by rw [hW3, ← hs1]; exact Blk.made W1 _ _⟩
  have hbw : Below w.heap.size w W3 := hb1.trans (hb3.mono hb1.size)
  have HQ := hide (hq.below hbw hq.lt)
  have HD := hide hd3
  have HP := hide (p.below hbw)
  have HBw := hide hbw
  have HSY := hide (And.intro hs ht)
  have e0 : W3.cell? ⟨w.heap.size, 0, none⟩ = some (.int .i64 4) := (hd3.st.cell 0).trans sa.c0
  have e1 : W3.cell? ⟨w.heap.size + 1, 0, none⟩ = some (.pointer (ptF s)) := hd3.pr.cell 0
  have e2 : W3.cell? ⟨w.heap.size + 1, 1, none⟩ = some (.pointer (ptR s)) := hd3.pr.cell 1
  have n1 := eqNilR
  have n2 := eqSomeR
  have HSA := hide sa
  have HKey := hide (key_range hd3.st sa)
  have HK32 : Hid ((kb.map u8c).length = 32) := hide (by rw [List.length_map]; exact sa.k32)
  have x0 : W3.cell? ⟨q, 0, none⟩ = some (.pointer (ptF t)) := HQ.out.cell 0
  have x1 : W3.cell? ⟨q, 1, none⟩ = some (.pointer (ptR t)) := HQ.out.cell 1
  have C := hide (with_any w0 W3.drew s t true (HP.out.below (below_drewN' (Below.refl _ _) 1)) hs ht)
  clear hb1 hk1 hs1 hq1 hb3 hd3 hbw p hq hs ht sa
  go_enter Try.func11, Try.ntmps11
  rw [hW1] at hW3
  rw [hW3] at e0 e1 e2
  rw [hW1] at c1 d0 d1
  clear x0 x1
  go_wp2
  rw [← hW3]
  refine dw14_walk _ (fun _ _ _ _ _ h => h) W3 w.heap.size (w.heap.size + 1) q SC F B H kb s t _ (fun w' h => by obtain ⟨s', _, _, _, _, hk⟩ := h; exact hk) HSA.out ⟨HD.out, HQ.out⟩ C.out _ (Nat.lt_of_sub_pos (by exact Nat.succ_pos _)) rfl rfl rfl rfl ?_
  rintro w4 ⟨s', hs4, hf4, hr4, hp4, hk4⟩
  have HP4 := hide hp4
  have HS4 := hide hs4
  have HK4 : Hid (KeepT W3 w4) := hide ((KeepT.below (below_drewN' (Below.refl _ _) 1)).trans hk4)
  have HQ4 : Hid (Blk w4 q (cells2 1 s' t) 30) := hide (by
    have := HK4.out.blk _ _ _ (.inl rfl) HQ.out
    have e : cells2 1 s' t = cells2 1 s t := by simp only [cells2, hf4, hr4]
    rw [e]
    exact this)
  clear hp4 hs4 hk4 hf4 hr4 hW1 hW3 c1 d0 d1 e0 e1 e2 HP HQ HD HKey C
  simp only [Act.put, List.setIfInBounds_toArray, List.set_cons_zero, List.set_cons_succ]
  go_wp2
  go_ret
  exact ⟨rfl, s', HS4.out, HP4.out, HQ4.out, fun b cs hb => HK4.out.blk _ _ _ (.inr (.inr rfl)) (hb.below HBw.out hb.lt)⟩
set_option maxRecDepth 20000 in
set_option maxHeartbeats 8000000 in
theorem done_told1 (w0 w : World) (q : Nat) (s t : Option Sl) (SC : Array Value) (F B H : Int) (kb : List UInt8) (sa : StepAt SC 5 F B H kb) (hF : bits .and .i64 F 1 = 1) (p : PQ w0 w s t) (hs : syO s) (ht : syO t) (hq : Blk w q (cells2 1 s t) 30) : Calls Try.prog 11 #[.slice (some ⟨q, 0, none⟩) 2 2, .agg SC] w (DoneC w0 w q 1 t) := by
  obtain ⟨W1, hW1⟩ : ∃ W1, W1 = w.alloc (.cells SC 38) := ⟨_, rfl⟩
  have hb1 : Below w.heap.size w W1 := by rw [hW1]; exact (Below.refl _ _).alloc (Nat.le_refl _) _
  have hk1 : Blk W1 w.heap.size SC 38 := by rw [hW1]; exact Blk.made w _ _
  have hs1 : W1.heap.size = w.heap.size + 1 := by rw [hW1, World.size_alloc]
  have hq1 := hq.below hb1 hq.lt
  have c1 : W1.cell? ⟨w.heap.size, 1, none⟩ = some (.int .i64 F) := (hk1.cell 1).trans sa.c1
  have d0 : W1.cell? ⟨q, 2, none⟩ = some (.pointer (ptF s)) := hq1.cell 2
  have d1 : W1.cell? ⟨q, 3, none⟩ = some (.pointer (ptR s)) := hq1.cell 3
  obtain ⟨W3, hW3⟩ : ∃ W3, W3 = W1.alloc (.cells #[.pointer (ptF s), .pointer (ptR s)] 30) := ⟨_, rfl⟩
  have hb3 : Below W1.heap.size W1 W3 := by rw [hW3]; exact (Below.refl _ _).alloc (Nat.le_refl _) _
  have hd3 : DS W3 w.heap.size (w.heap.size + 1) SC (.pointer (ptF s)) (.pointer (ptR s)) := ⟨hk1.below hb3 hk1.lt, by rw [hW3, ← hs1]; exact Blk.made W1 _ _⟩
  have hbw : Below w.heap.size w W3 := hb1.trans (hb3.mono hb1.size)
  have HQ := hide (hq.below hbw hq.lt)
  have HD := hide hd3
  have HP := hide (p.below hbw)
  have HBw := hide hbw
  have HSY := hide (And.intro hs ht)
  have e0 : W3.cell? ⟨w.heap.size, 0, none⟩ = some (.int .i64 5) := (hd3.st.cell 0).trans sa.c0
  have e1 : W3.cell? ⟨w.heap.size + 1, 0, none⟩ = some (.pointer (ptF s)) := hd3.pr.cell 0
  have e2 : W3.cell? ⟨w.heap.size + 1, 1, none⟩ = some (.pointer (ptR s)) := hd3.pr.cell 1
  have n1 := eqNilR
  have n2 := eqSomeR
  have HSA := hide sa
  have HKey := hide (key_range hd3.st sa)
  have HK32 : Hid ((kb.map u8c).length = 32) := hide (by rw [List.length_map]; exact sa.k32)
  have C := hide (told_any W3 s HP.out.a hs)
  clear hb1 hk1 hs1 hq1 hb3 hd3 hbw p hq hs ht sa
  go_enter Try.func11, Try.ntmps11
  rw [hW1] at hW3
  rw [hW3] at e0 e1 e2
  rw [hW1] at c1 d0 d1
  go_wp2_with fail
  rw [← hW3]
  refine C.out.mono ?_
  rintro e w4 ⟨rfl, hb4⟩
  have HP4 := hide (HP.out.below hb4)
  have HQ4 := hide (HQ.out.below hb4 HQ.out.lt)
  have HBw4 := hide (HBw.out.trans (hb4.mono HBw.out.size))
  clear hW1 hW3 c1 d0 d1 e0 e1 e2 hb4 HP HQ HD HKey C
  go_wp2
  go_ret
  exact ⟨rfl, s, HSY.out.1, HP4.out, HQ4.out, fun b cs hb => hb.below HBw4.out hb.lt⟩
set_option maxRecDepth 20000 in
set_option maxHeartbeats 8000000 in
theorem done_other1 (w0 w : World) (q : Nat) (s t : Option Sl) (SC : Array Value) (K : Int) (F B H : Int) (kb : List UInt8) (sa : StepAt SC K F B H kb) (hF : bits .and .i64 F 1 = 1) (p : PQ w0 w s t) (hs : syO s) (ht : syO t) (hq : Blk w q (cells2 1 s t) 30) (hK : ∀ n : Int, 1 ≤ n → n ≤ 8 → K ≠ n) : Calls Try.prog 11 #[.slice (some ⟨q, 0, none⟩) 2 2, .agg SC] w (DoneC w0 w q 1 t) := by
  obtain ⟨W1, hW1⟩ : ∃ W1, W1 = w.alloc (.cells SC 38) := ⟨_, rfl⟩
  have hb1 : Below w.heap.size w W1 := by rw [hW1]; exact (Below.refl _ _).alloc (Nat.le_refl _) _
  have hk1 : Blk W1 w.heap.size SC 38 := by rw [hW1]; exact Blk.made w _ _
  have hs1 : W1.heap.size = w.heap.size + 1 := by rw [hW1, World.size_alloc]
  have hq1 := hq.below hb1 hq.lt
  have c1 : W1.cell? ⟨w.heap.size, 1, none⟩ = some (.int .i64 F) := (hk1.cell 1).trans sa.c1
  have d0 : W1.cell? ⟨q, 2, none⟩ = some (.pointer (ptF s)) := hq1.cell 2
  have d1 : W1.cell? ⟨q, 3, none⟩ = some (.pointer (ptR s)) := hq1.cell 3
  obtain ⟨W3, hW3⟩ : ∃ W3, W3 = W1.alloc (.cells #[.pointer (ptF s), .pointer (ptR s)] 30) := ⟨_, rfl⟩
  have hb3 : Below W1.heap.size W1 W3 := by rw [hW3]; exact (Below.refl _ _).alloc (Nat.le_refl _) _
  have hd3 : DS W3 w.heap.size (w.heap.size + 1) SC (.pointer (ptF s)) (.pointer (ptR s)) := ⟨hk1.below hb3 hk1.lt, by rw [hW3, ← hs1]; exact Blk.made W1 _ _⟩
  have hbw : Below w.heap.size w W3 := hb1.trans (hb3.mono hb1.size)
  have HQ := hide (hq.below hbw hq.lt)
  have HD := hide hd3
  have HP := hide (p.below hbw)
  have HBw := hide hbw
  have HSY := hide (And.intro hs ht)
  have e0 : W3.cell? ⟨w.heap.size, 0, none⟩ = some (.int .i64 K) := (hd3.st.cell 0).trans sa.c0
  have e1 : W3.cell? ⟨w.heap.size + 1, 0, none⟩ = some (.pointer (ptF s)) := hd3.pr.cell 0
  have e2 : W3.cell? ⟨w.heap.size + 1, 1, none⟩ = some (.pointer (ptR s)) := hd3.pr.cell 1
  have n1 := eqNilR
  have n2 := eqSomeR
  have HSA := hide sa
  have HKey := hide (key_range hd3.st sa)
  have HK32 : Hid ((kb.map u8c).length = 32) := hide (by rw [List.length_map]; exact sa.k32)
  have k1 : ¬ K = 1 := hK 1 (by decide) (by decide)
  have k2 : ¬ K = 2 := hK 2 (by decide) (by decide)
  have k3 : ¬ K = 3 := hK 3 (by decide) (by decide)
  have k4 : ¬ K = 4 := hK 4 (by decide) (by decide)
  have k5 : ¬ K = 5 := hK 5 (by decide) (by decide)
  have k6 : ¬ K = 6 := hK 6 (by decide) (by decide)
  have k7 : ¬ K = 7 := hK 7 (by decide) (by decide)
  have k8 : ¬ K = 8 := hK 8 (by decide) (by decide)
  clear hK
  clear hb1 hk1 hs1 hq1 hb3 hd3 hbw p hq hs ht sa
  go_enter Try.func11, Try.ntmps11
  rw [hW1] at hW3
  rw [hW3] at e0 e1 e2
  rw [hW1] at c1 d0 d1
  go_wp2
  go_ret
  rw [← hW3]
  exact ⟨rfl, s, HSY.out.1, HP.out, HQ.out, fun b cs hb => hb.below HBw.out hb.lt⟩
set_option maxRecDepth 20000 in
set_option maxHeartbeats 8000000 in
theorem done_new1 (w0 w : World) (q : Nat) (s t : Option Sl) (SC : Array Value) (F B H : Int) (kb : List UInt8) (sa : StepAt SC 8 F B H kb) (hF : bits .and .i64 F 1 = 1) (p : PQ w0 w s t) (hs : syO s) (ht : syO t) (hq : Blk w q (cells2 1 s t) 30) (hlo : w0.heap.size ≤ q) : Calls Try.prog 11 #[.slice (some ⟨q, 0, none⟩) 2 2, .agg SC] w (DoneC w0 w q 1 t) := by
  obtain ⟨W1, hW1⟩ : ∃ W1, W1 = w.alloc (.cells SC 38) := ⟨_, rfl⟩
  have hb1 : Below w.heap.size w W1 := by rw [hW1]; exact (Below.refl _ _).alloc (Nat.le_refl _) _
  have hk1 : Blk W1 w.heap.size SC 38 := by rw [hW1]; exact Blk.made w _ _
  have hs1 : W1.heap.size = w.heap.size + 1 := by rw [hW1, World.size_alloc]
  have hq1 := hq.below hb1 hq.lt
  have c1 : W1.cell? ⟨w.heap.size, 1, none⟩ = some (.int .i64 F) := (hk1.cell 1).trans sa.c1
  have d0 : W1.cell? ⟨q, 2, none⟩ = some (.pointer (ptF s)) := hq1.cell 2
  have d1 : W1.cell? ⟨q, 3, none⟩ = some (.pointer (ptR s)) := hq1.cell 3
  obtain ⟨W3, hW3⟩ : ∃ W3, W3 = W1.alloc (.cells #[.pointer (ptF s), .pointer (ptR s)] 30) := ⟨_, rfl⟩
  have hb3 : Below W1.heap.size W1 W3 := by rw [hW3]; exact (Below.refl _ _).alloc (Nat.le_refl _) _
  have hd3 : DS W3 w.heap.size (w.heap.size + 1) SC (.pointer (ptF s)) (.pointer (ptR s)) := ⟨hk1.below hb3 hk1.lt, by rw [hW3, ← hs1]; exact Blk.made W1 _ _⟩
  have hbw : Below w.heap.size w W3 := hb1.trans (hb3.mono hb1.size)
  have HQ := hide (hq.below hbw hq.lt)
  have HD := hide hd3
  have HP := hide (p.below hbw)
  have HBw := hide hbw
  have HSY := hide (And.intro hs ht)
  have e0 : W3.cell? ⟨w.heap.size, 0, none⟩ = some (.int .i64 8) := (hd3.st.cell 0).trans sa.c0
  have e1 : W3.cell? ⟨w.heap.size + 1, 0, none⟩ = some (.pointer (ptF s)) := hd3.pr.cell 0
  have e2 : W3.cell? ⟨w.heap.size + 1, 1, none⟩ = some (.pointer (ptR s)) := hd3.pr.cell 1
  have n1 := eqNilR
  have n2 := eqSomeR
  have HSA := hide sa
  have HKey := hide (key_range hd3.st sa)
  have HK32 : Hid ((kb.map u8c).length = 32) := hide (by rw [List.length_map]; exact sa.k32)
  have x0 : W3.cell? ⟨w.heap.size, 34, none⟩ = some (.int .i64 B) := (hd3.st.cell 34).trans sa.cB
  have x1 : W3.cell? ⟨w.heap.size, 35, none⟩ = some (.int .i64 H) := (hd3.st.cell 35).trans sa.cH
  have C := hide (made_any W3 B H)
  clear hb1 hk1 hs1 hq1 hb3 hd3 hbw p hq hs ht sa
  go_enter Try.func11, Try.ntmps11
  rw [hW1] at hW3
  rw [hW3] at e0 e1 e2
  rw [hW1] at c1 d0 d1
  rw [hW3] at x0 x1
  go_wp2_with fail
  rw [← hW3]
  refine C.out.mono ?_
  rintro e w4 ⟨n, rfl, hok, hsy, hlo4, hb4⟩
  obtain ⟨u1, hu1⟩ : ∃ v, v = ptF n := ⟨_, rfl⟩
  obtain ⟨u2, hu2⟩ : ∃ v, v = ptR n := ⟨_, rfl⟩
  have HP4 : Hid (PQ w0 w4 n t) := hide (by
    cases n with
    | none => exact HP.out.gone hb4
    | some n => exact HP.out.made hb4 hok hlo4)
  have hq4 := HQ.out.below hb4 HQ.out.lt
  have HBw4 := hide (HBw.out.trans (hb4.mono HBw.out.size))
  obtain ⟨W5, hW5⟩ : ∃ W5, W5 = w4.alloc (.cells #[.pointer u1, .pointer u2] 30) := ⟨_, rfl⟩
  have hb5 : Below w4.heap.size w4 W5 := by rw [hW5]; exact (Below.refl _ _).alloc (Nat.le_refl _) _
  have hq5 := hq4.below hb5 hq4.lt
  have y0 : W5.cell? ⟨q, 2, none⟩ = some (.pointer (ptF s)) := hq5.cell 2
  have y1 : W5.cell? ⟨q, 3, none⟩ = some (.pointer (ptR s)) := hq5.cell 3
  have z0 : W5.frozen? ⟨q, 2, none⟩ = false := hq5.frozen 2
  have z1 : W5.frozen? ⟨q, 3, none⟩ = false := hq5.frozen 3
  have HP5 := hide (HP4.out.below hb5)
  have HBw5 := hide (HBw4.out.trans (hb5.mono HBw4.out.size))
  have HQ5 := hide hq5
  have HSy := hide hsy
  have HU := hide (And.intro hu1 hu2)
  unfold slF slR
  rw [← hu1, ← hu2]
  rw [hW5] at y0 y1 z0 z1
  clear hok hsy hlo4 hb4 hq4 hb5 hq5 hu1 hu2 hW1 hW3 c1 d0 d1 e0 e1 e2 x0 x1 HP HQ HD HKey C HP4 HBw4
  go_wp2
  go_ret
  rw [← hW5]
  have hg : W5.grownBy ((W5.setCell ⟨q, 2, none⟩ (.pointer u1)).setCell ⟨q, 3, none⟩ (.pointer u2)) (some q) := grownBy_trans (grownBy_set _ _ _ _) (grownBy_set _ _ _ _)
  refine ⟨rfl, n, HSy.out, HP5.out.grownX hg HQ5.out tpPair hlo, ?_, fun b cs hb => ?_⟩
  · have := (HQ5.out.set 2 (.pointer u1)).set 3 (.pointer u2)
    rw [HU.out.1, HU.out.2] at this ⊢
    exact this
  · have h1 := hb.below HBw5.out hb.lt
    exact h1.grown hg (snn (blk_ne h1 HQ5.out (by decide)))
end Go.Proofs.Ytbemmhngadpjcaa
