/- BloomPlays: a step done: Add, Has. -/
import Derived.Test.YtbemmhngadpjcaaFQ6
namespace Go.Proofs.Ytbemmhngadpjcaa
set_option linter.unusedVariables false
set_option linter.unusedSimpArgs false
open Go.RowKit

def DoneC (w0 w : World) (q i : Nat) (t : Option Sl) (e : Ending) (w' : World) : Prop :=
  e = .returned (.bool true) ∧ ∃ s', syO s' ∧ PQ w0 w' s' t ∧ Blk w' q (cells2 i s' t) 30 ∧ ∀ b cs, Blk w b cs 25 → Blk w' b cs 25
set_option maxRecDepth 20000 in
set_option maxHeartbeats 8000000 in
theorem done_addN0 (w0 w : World) (q : Nat) (t : Option Sl) (SC : Array Value) (F B H : Int) (kb : List UInt8) (sa : StepAt SC 1 F B H kb) (hF : bits .and .i64 F 1 = 0) (p : PQ w0 w none t) (hs : syO none) (ht : syO t) (hq : Blk w q (cells2 0 none t) 30) : Calls Try.prog 11 #[.slice (some ⟨q, 0, none⟩) 2 2, .agg SC] w (DoneC w0 w q 0 t) := by
  obtain ⟨W1, hW1⟩ : ∃ W1, W1 = w.alloc (.cells SC 38) := ⟨_, rfl⟩
  have hb1 : Below w.heap.size w W1 := by rw [hW1]; exact (Below.refl _ _).alloc (Nat.le_refl _) _
  have hk1 : Blk W1 w.heap.size SC 38 := by rw [hW1]; exact Blk.made w _ _
  have hs1 : W1.heap.size = w.heap.size + 1 := by rw [hW1, World.size_alloc]
  have hq1 := hq.below hb1 hq.lt
  have c1 : W1.cell? ⟨w.heap.size, 1, none⟩ = some (.int .i64 F) := (hk1.cell 1).trans sa.c1
  have d0 : W1.cell? ⟨q, 0, none⟩ = some (.pointer none) := hq1.cell 0
  have d1 : W1.cell? ⟨q, 1, none⟩ = some (.pointer none) := hq1.cell 1
  obtain ⟨W3, hW3⟩ : ∃ W3, W3 = W1.alloc (.cells #[.pointer none, .pointer none] 30) := ⟨_, rfl⟩
  have hb3 : Below W1.heap.size W1 W3 := by rw [hW3]; exact (Below.refl _ _).alloc (Nat.le_refl _) _
  have hd3 : DS W3 w.heap.size (w.heap.size + 1) SC (.pointer none) (.pointer none) := ⟨hk1.below hb3 hk1.lt, by rw [hW3, ← hs1]; exact Blk.made W1 _ _⟩
  have hbw : Below w.heap.size w W3 := hb1.trans (hb3.mono hb1.size)
  have HQ := hide (hq.below hbw hq.lt)
  have HD := hide hd3
  have HP := hide (p.below hbw)
  have HBw := hide hbw
  have HSY := hide (And.intro hs ht)
  have e0 : W3.cell? ⟨w.heap.size, 0, none⟩ = some (.int .i64 1) := (hd3.st.cell 0).trans sa.c0
  have e1 : W3.cell? ⟨w.heap.size + 1, 0, none⟩ = some (.pointer none) := hd3.pr.cell 0
  have e2 : W3.cell? ⟨w.heap.size + 1, 1, none⟩ = some (.pointer none) := hd3.pr.cell 1
  have n1 := eqNilR
  have n2 := eqSomeR
  have HSA := hide sa
  have HKey := hide (key_range hd3.st sa)
  have HK32 : Hid ((kb.map u8c).length = 32) := hide (by rw [List.length_map]; exact sa.k32)
  have C := hide (add_nil W3 (kb.map u8c).toArray)
  clear hb1 hk1 hs1 hq1 hb3 hd3 hbw p hq hs ht sa
  go_enter Try.func11, Try.ntmps11
  rw [hW1] at hW3
  rw [hW3] at e0 e1 e2
  rw [hW1] at c1 d0 d1
  go_wp2_with (first | ((with_reducible refine wpList_load_mid rfl 36 _ rfl w.heap.size 2 rfl (kb.map u8c) _ ?key Try.underlying36 rfl ?keyn ?_)) | fail)
  case key => rw [← hW3]; exact HKey.out
  case keyn => rw [HK32.out]; exact infoKey
  rw [← hW3]
  refine C.out.mono ?_
  rintro e w4 ⟨rfl, hb4⟩
  have HP4 := hide (HP.out.below hb4)
  have HQ4 := hide (HQ.out.below hb4 HQ.out.lt)
  have HBw4 := hide (HBw.out.trans (hb4.mono HBw.out.size))
  clear hW1 hW3 c1 d0 d1 e0 e1 e2 hb4 HP HQ HD HKey
  go_wp2
  go_ret
  exact ⟨rfl, none, trivial, HP4.out, HQ4.out, fun b cs hb => hb.below HBw4.out hb.lt⟩
set_option maxRecDepth 20000 in
set_option maxHeartbeats 8000000 in
theorem done_hasN0 (w0 w : World) (q : Nat) (t : Option Sl) (SC : Array Value) (F B H : Int) (kb : List UInt8) (sa : StepAt SC 2 F B H kb) (hF : bits .and .i64 F 1 = 0) (p : PQ w0 w none t) (hs : syO none) (ht : syO t) (hq : Blk w q (cells2 0 none t) 30) : Calls Try.prog 11 #[.slice (some ⟨q, 0, none⟩) 2 2, .agg SC] w (DoneC w0 w q 0 t) := by
  obtain ⟨W1, hW1⟩ : ∃ W1, W1 = w.alloc (.cells SC 38) := ⟨_, rfl⟩
  have hb1 : Below w.heap.size w W1 := by rw [hW1]; exact (Below.refl _ _).alloc (Nat.le_refl _) _
  have hk1 : Blk W1 w.heap.size SC 38 := by rw [hW1]; exact Blk.made w _ _
  have hs1 : W1.heap.size = w.heap.size + 1 := by rw [hW1, World.size_alloc]
  have hq1 := hq.below hb1 hq.lt
  have c1 : W1.cell? ⟨w.heap.size, 1, none⟩ = some (.int .i64 F) := (hk1.cell 1).trans sa.c1
  have d0 : W1.cell? ⟨q, 0, none⟩ = some (.pointer none) := hq1.cell 0
  have d1 : W1.cell? ⟨q, 1, none⟩ = some (.pointer none) := hq1.cell 1
  obtain ⟨W3, hW3⟩ : ∃ W3, W3 = W1.alloc (.cells #[.pointer none, .pointer none] 30) := ⟨_, rfl⟩
  have hb3 : Below W1.heap.size W1 W3 := by rw [hW3]; exact (Below.refl _ _).alloc (Nat.le_refl _) _
  have hd3 : DS W3 w.heap.size (w.heap.size + 1) SC (.pointer none) (.pointer none) := ⟨hk1.below hb3 hk1.lt, by rw [hW3, ← hs1]; exact Blk.made W1 _ _⟩
  have hbw : Below w.heap.size w W3 := hb1.trans (hb3.mono hb1.size)
  have HQ := hide (hq.below hbw hq.lt)
  have HD := hide hd3
  have HP := hide (p.below hbw)
  have HBw := hide hbw
  have HSY := hide (And.intro hs ht)
  have e0 : W3.cell? ⟨w.heap.size, 0, none⟩ = some (.int .i64 2) := (hd3.st.cell 0).trans sa.c0
  have e1 : W3.cell? ⟨w.heap.size + 1, 0, none⟩ = some (.pointer none) := hd3.pr.cell 0
  have e2 : W3.cell? ⟨w.heap.size + 1, 1, none⟩ = some (.pointer none) := hd3.pr.cell 1
  have n1 := eqNilR
  have n2 := eqSomeR
  have HSA := hide sa
  have HKey := hide (key_range hd3.st sa)
  have HK32 : Hid ((kb.map u8c).length = 32) := hide (by rw [List.length_map]; exact sa.k32)
  have C := hide (has_nil W3 (kb.map u8c).toArray)
  clear hb1 hk1 hs1 hq1 hb3 hd3 hbw p hq hs ht sa
  go_enter Try.func11, Try.ntmps11
  rw [hW1] at hW3
  rw [hW3] at e0 e1 e2
  rw [hW1] at c1 d0 d1
  go_wp2_with (first | ((with_reducible refine wpList_load_mid rfl 36 _ rfl w.heap.size 2 rfl (kb.map u8c) _ ?key Try.underlying36 rfl ?keyn ?_)) | fail)
  case key => rw [← hW3]; exact HKey.out
  case keyn => rw [HK32.out]; exact infoKey
  rw [← hW3]
  refine C.out.mono ?_
  rintro e w4 ⟨rfl, hb4⟩
  have HP4 := hide (HP.out.below hb4)
  have HQ4 := hide (HQ.out.below hb4 HQ.out.lt)
  have HBw4 := hide (HBw.out.trans (hb4.mono HBw.out.size))
  clear hW1 hW3 c1 d0 d1 e0 e1 e2 hb4 HP HQ HD HKey
  go_wp2
  go_ret
  exact ⟨rfl, none, trivial, HP4.out, HQ4.out, fun b cs hb => hb.below HBw4.out hb.lt⟩
set_option maxRecDepth 20000 in
set_option maxHeartbeats 8000000 in
theorem done_addS0 (w0 w : World) (q : Nat) (s : Sl) (t : Option Sl) (SC : Array Value) (F B H : Int) (kb : List UInt8) (sa : StepAt SC 1 F B H kb) (hF : bits .and .i64 F 1 = 0) (p : PQ w0 w (some s) t) (hs : syO (some s)) (ht : syO t) (hq : Blk w q (cells2 0 (some s) t) 30) : Calls Try.prog 11 #[.slice (some ⟨q, 0, none⟩) 2 2, .agg SC] w (DoneC w0 w q 0 t) := by
  obtain ⟨W1, hW1⟩ : ∃ W1, W1 = w.alloc (.cells SC 38) := ⟨_, rfl⟩
  have hb1 : Below w.heap.size w W1 := by rw [hW1]; exact (Below.refl _ _).alloc (Nat.le_refl _) _
  have hk1 : Blk W1 w.heap.size SC 38 := by rw [hW1]; exact Blk.made w _ _
  have hs1 : W1.heap.size = w.heap.size + 1 := by rw [hW1, World.size_alloc]
  have hq1 := hq.below hb1 hq.lt
  have c1 : W1.cell? ⟨w.heap.size, 1, none⟩ = some (.int .i64 F) := (hk1.cell 1).trans sa.c1
  have d0 : W1.cell? ⟨q, 0, none⟩ = some (.pointer (some ⟨s.zf, 0, none⟩)) := hq1.cell 0
  have d1 : W1.cell? ⟨q, 1, none⟩ = some (.pointer (some ⟨s.zr, 0, none⟩)) := hq1.cell 1
  obtain ⟨W3, hW3⟩ : ∃ W3, W3 = W1.alloc (.cells #[.pointer (some ⟨s.zf, 0, none⟩), .pointer (some ⟨s.zr, 0, none⟩)] 30) := ⟨_, rfl⟩
  have hb3 : Below W1.heap.size W1 W3 := by rw [hW3]; exact (Below.refl _ _).alloc (Nat.le_refl _) _
  have hd3 : DS W3 w.heap.size (w.heap.size + 1) SC (.pointer (some ⟨s.zf, 0, none⟩)) (.pointer (some ⟨s.zr, 0, none⟩)) := ⟨hk1.below hb3 hk1.lt, by rw [hW3, ← hs1]; exact Blk.made W1 _ _⟩
  have hbw : Below w.heap.size w W3 := hb1.trans (hb3.mono hb1.size)
  have HQ := hide (hq.below hbw hq.lt)
  have HD := hide hd3
  have HP := hide (p.below hbw)
  have HBw := hide hbw
  have HSY := hide (And.intro hs ht)
  have e0 : W3.cell? ⟨w.heap.size, 0, none⟩ = some (.int .i64 1) := (hd3.st.cell 0).trans sa.c0
  have e1 : W3.cell? ⟨w.heap.size + 1, 0, none⟩ = some (.pointer (some ⟨s.zf, 0, none⟩)) := hd3.pr.cell 0
  have e2 : W3.cell? ⟨w.heap.size + 1, 1, none⟩ = some (.pointer (some ⟨s.zr, 0, none⟩)) := hd3.pr.cell 1
  have n1 := eqNilR
  have n2 := eqSomeR
  have HSA := hide sa
  have HKey := hide (key_range hd3.st sa)
  have HK32 : Hid ((kb.map u8c).length = 32) := hide (by rw [List.length_map]; exact sa.k32)
  obtain ⟨r, hr⟩ : ∃ r, r = (addK s.ws (keyA kb) (keyB kb) s.h).2 := ⟨_, rfl⟩
  obtain ⟨xs, hxs⟩ : ∃ xs, xs = (addK s.ws (keyA kb) (keyB kb) s.h).1 := ⟨_, rfl⟩
  have hsy : s.ws = s.us := hs
  have HD3 : Hid (PQ w0 W3.drew (some s) t) := hide (HP.out.below (below_drewN' (Below.refl _ _) 1))
  have C1 : Hid (Calls Try.prog 23 #[.pointer (some ⟨s.zf, 0, none⟩), .agg (kb.map u8c).toArray] W3.drew fun e w' => e = .returned (.bool r) ∧ (PQ w0 w' (some { s with ws := xs }) t ∧ KeepT W3 w') ∧ KeepT W3.drew w') := hide (by
    have ka : SlOk W3.drew s := HD3.out.a
    refine (add_any W3.drew s.zf s.gf s.h s.ws ka.f kb sa.k32).mono ?_
    rintro e w' ⟨he, hf, hg⟩
    rw [← hr] at he
    rw [← hxs] at hf
    exact ⟨he, ⟨HD3.out.setF hf hg, (KeepT.below (below_drewN' (Below.refl _ _) 1)).trans (KeepT.grown hg ka.f.gb nk64)⟩, KeepT.grown hg ka.f.gb nk64⟩)
  have C2 : Hid (∀ w1, (PQ w0 w1 (some { s with ws := xs }) t ∧ KeepT W3 w1) → Calls Try.prog 30 #[.pointer (some ⟨s.zr, 0, none⟩), .agg (kb.map u8c).toArray] w1 fun e w' => e = .returned (.bool r) ∧ (PQ w0 w' (some { s with ws := xs, us := xs }) t ∧ KeepT W3 w') ∧ KeepT w1 w') := hide (fun w1 ⟨p1, k1⟩ => by
    have ka : SlOk w1 { s with ws := xs } := p1.a
    refine (radd_any w1 s.zr s.gr s.c s.h s.us ka.r kb sa.k32).mono ?_
    rintro e w' ⟨he, hf, hg⟩
    rw [← hsy, ← hr] at he
    rw [← hsy, ← hxs] at hf
    obtain ⟨cur, hcur⟩ := ka.r.gb'
    exact ⟨he, ⟨p1.setR hf hg, k1.trans (KeepT.grown hg hcur nkBo)⟩, KeepT.grown hg hcur nkBo⟩)
  clear hsy hr hxs HD3
  clear hb1 hk1 hs1 hq1 hb3 hd3 hbw p hq hs ht sa
  go_enter Try.func11, Try.ntmps11
  rw [hW1] at hW3
  rw [hW3] at e0 e1 e2
  rw [hW1] at c1 d0 d1
  go_wp2
  rw [← hW3]
  refine da_walk _ (fun _ _ _ _ _ h => h) W3 w.heap.size (w.heap.size + 1) s.zf s.zr SC 1 F B H kb r _ _ HSA.out HD.out C1.out C2.out _ (Nat.lt_of_sub_pos (by exact Nat.succ_pos _)) rfl rfl ?_
  rintro w4 ⟨hp4, hk4⟩ -
  have HP4 := hide hp4
  have HK4 := hide hk4
  have HQ4 := hide (hk4.blk _ _ _ (.inl rfl) HQ.out)
  clear hp4 hk4 hW1 hW3 c1 d0 d1 e0 e1 e2 HP HQ HD HKey C1 C2
  simp only [Act.put, List.setIfInBounds_toArray, List.set_cons_zero, List.set_cons_succ]
  go_wp2
  go_ret
  exact ⟨rfl, some { s with ws := xs, us := xs }, rfl, HP4.out, HQ4.out, fun b cs hb => HK4.out.blk _ _ _ (.inr (.inr rfl)) (hb.below HBw.out hb.lt)⟩
set_option maxRecDepth 20000 in
set_option maxHeartbeats 8000000 in
theorem done_hasS0 (w0 w : World) (q : Nat) (s : Sl) (t : Option Sl) (SC : Array Value) (F B H : Int) (kb : List UInt8) (sa : StepAt SC 2 F B H kb) (hF : bits .and .i64 F 1 = 0) (p : PQ w0 w (some s) t) (hs : syO (some s)) (ht : syO t) (hq : Blk w q (cells2 0 (some s) t) 30) : Calls Try.prog 11 #[.slice (some ⟨q, 0, none⟩) 2 2, .agg SC] w (DoneC w0 w q 0 t) := by
  obtain ⟨W1, hW1⟩ : ∃ W1, W1 = w.alloc (.cells SC 38) := ⟨_, rfl⟩
  have hb1 : Below w.heap.size w W1 := by rw [hW1]; exact (Below.refl _ _).alloc (Nat.le_refl _) _
  have hk1 : Blk W1 w.heap.size SC 38 := by rw [hW1]; exact Blk.made w _ _
  have hs1 : W1.heap.size = w.heap.size + 1 := by rw [hW1, World.size_alloc]
  have hq1 := hq.below hb1 hq.lt
  have c1 : W1.cell? ⟨w.heap.size, 1, none⟩ = some (.int .i64 F) := (hk1.cell 1).trans sa.c1
  have d0 : W1.cell? ⟨q, 0, none⟩ = some (.pointer (some ⟨s.zf, 0, none⟩)) := hq1.cell 0
  have d1 : W1.cell? ⟨q, 1, none⟩ = some (.pointer (some ⟨s.zr, 0, none⟩)) := hq1.cell 1
  obtain ⟨W3, hW3⟩ : ∃ W3, W3 = W1.alloc (.cells #[.pointer (some ⟨s.zf, 0, none⟩), .pointer (some ⟨s.zr, 0, none⟩)] 30) := ⟨_, rfl⟩
  have hb3 : Below W1.heap.size W1 W3 := by rw [hW3]; exact (Below.refl _ _).alloc (Nat.le_refl _) _
  have hd3 : DS W3 w.heap.size (w.heap.size + 1) SC (.pointer (some ⟨s.zf, 0, none⟩)) (.pointer (some ⟨s.zr, 0, none⟩)) := ⟨hk1.below hb3 hk1.lt, by rw [hW3, ← hs1]; exact Blk.made W1 _ _⟩
  have hbw : Below w.heap.size w W3 := hb1.trans (hb3.mono hb1.size)
  have HQ := hide (hq.below hbw hq.lt)
  have HD := hide hd3
  have HP := hide (p.below hbw)
  have HBw := hide hbw
  have HSY := hide (And.intro hs ht)
  have e0 : W3.cell? ⟨w.heap.size, 0, none⟩ = some (.int .i64 2) := (hd3.st.cell 0).trans sa.c0
  have e1 : W3.cell? ⟨w.heap.size + 1, 0, none⟩ = some (.pointer (some ⟨s.zf, 0, none⟩)) := hd3.pr.cell 0
  have e2 : W3.cell? ⟨w.heap.size + 1, 1, none⟩ = some (.pointer (some ⟨s.zr, 0, none⟩)) := hd3.pr.cell 1
  have n1 := eqNilR
  have n2 := eqSomeR
  have HSA := hide sa
  have HKey := hide (key_range hd3.st sa)
  have HK32 : Hid ((kb.map u8c).length = 32) := hide (by rw [List.length_map]; exact sa.k32)
  obtain ⟨r, hr⟩ : ∃ r, r = hasK s.ws (keyA kb) (keyB kb) s.h := ⟨_, rfl⟩
  have hsy : s.ws = s.us := hs
  have HD3 : Hid (PQ w0 W3.drew (some s) t) := hide (HP.out.below (below_drewN' (Below.refl _ _) 1))
  have C1 : Hid (Calls Try.prog 26 #[.pointer (some ⟨s.zf, 0, none⟩), .agg (kb.map u8c).toArray] W3.drew fun e w' => e = .returned (.bool r) ∧ (PQ w0 w' (some s) t ∧ KeepT W3 w') ∧ KeepT W3.drew w') := hide (by
    have ka : SlOk W3.drew s := HD3.out.a
    refine (has_any W3.drew s.zf s.gf s.h s.ws ka.f kb sa.k32).mono ?_
    rintro e w' ⟨he, hg⟩
    rw [← hr] at he
    exact ⟨he, ⟨HD3.out.below hg, (KeepT.below (below_drewN' (Below.refl _ _) 1)).trans (KeepT.below hg)⟩, KeepT.below hg⟩)
  have C2 : Hid (∀ w1, (PQ w0 w1 (some s) t ∧ KeepT W3 w1) → Calls Try.prog 31 #[.pointer (some ⟨s.zr, 0, none⟩), .agg (kb.map u8c).toArray] w1 fun e w' => e = .returned (.bool r) ∧ (PQ w0 w' (some s) t ∧ KeepT W3 w') ∧ KeepT w1 w') := hide (fun w1 ⟨p1, k1⟩ => by
    have ka : SlOk w1 s := p1.a
    refine (rhas_any w1 s.zr s.gr s.c s.h s.us ka.r kb sa.k32).mono ?_
    rintro e w' ⟨he, hg⟩
    rw [← hsy, ← hr] at he
    exact ⟨he, ⟨p1.below hg, k1.trans (KeepT.below hg)⟩, KeepT.below hg⟩)
  clear hsy hr HD3
  clear hb1 hk1 hs1 hq1 hb3 hd3 hbw p hq hs ht sa
  go_enter Try.func11, Try.ntmps11
  rw [hW1] at hW3
  rw [hW3] at e0 e1 e2
  rw [hW1] at c1 d0 d1
  go_wp2
  rw [← hW3]
  refine db_walk _ (fun _ _ _ _ _ h => h) W3 w.heap.size (w.heap.size + 1) s.zf s.zr SC 2 F B H kb r _ _ HSA.out HD.out C1.out C2.out _ (Nat.lt_of_sub_pos (by exact Nat.succ_pos _)) rfl rfl ?_
  rintro w4 ⟨hp4, hk4⟩ -
  have HP4 := hide hp4
  have HK4 := hide hk4
  have HQ4 := hide (hk4.blk _ _ _ (.inl rfl) HQ.out)
  clear hp4 hk4 hW1 hW3 c1 d0 d1 e0 e1 e2 HP HQ HD HKey C1 C2
  simp only [Act.put, List.setIfInBounds_toArray, List.set_cons_zero, List.set_cons_succ]
  go_wp2
  go_ret
  exact ⟨rfl, some s, HSY.out.1, HP4.out, HQ4.out, fun b cs hb => HK4.out.blk _ _ _ (.inr (.inr rfl)) (hb.below HBw.out hb.lt)⟩
set_option maxRecDepth 20000 in
set_option maxHeartbeats 8000000 in
theorem done_addN1 (w0 w : World) (q : Nat) (t : Option Sl) (SC : Array Value) (F B H : Int) (kb : List UInt8) (sa : StepAt SC 1 F B H kb) (hF : bits .and .i64 F 1 = 1) (p : PQ w0 w none t) (hs : syO none) (ht : syO t) (hq : Blk w q (cells2 1 none t) 30) : Calls Try.prog 11 #[.slice (some ⟨q, 0, none⟩) 2 2, .agg SC] w (DoneC w0 w q 1 t) := by
  obtain ⟨W1, hW1⟩ : ∃ W1, W1 = w.alloc (.cells SC 38) := ⟨_, rfl⟩
  have hb1 : Below w.heap.size w W1 := by rw [hW1]; exact (Below.refl _ _).alloc (Nat.le_refl _) _
  have hk1 : Blk W1 w.heap.size SC 38 := by rw [hW1]; exact Blk.made w _ _
  have hs1 : W1.heap.size = w.heap.size + 1 := by rw [hW1, World.size_alloc]
  have hq1 := hq.below hb1 hq.lt
  have c1 : W1.cell? ⟨w.heap.size, 1, none⟩ = some (.int .i64 F) := (hk1.cell 1).trans sa.c1
  have d0 : W1.cell? ⟨q, 2, none⟩ = some (.pointer none) := hq1.cell 2
  have d1 : W1.cell? ⟨q, 3, none⟩ = some (.pointer none) := hq1.cell 3
  obtain ⟨W3, hW3⟩ : ∃ W3, W3 = W1.alloc (.cells #[.pointer none, .pointer none] 30) := ⟨_, rfl⟩
  have hb3 : Below W1.heap.size W1 W3 := by rw [hW3]; exact (Below.refl _ _).alloc (Nat.le_refl _) _
  have hd3 : DS W3 w.heap.size (w.heap.size + 1) SC (.pointer none) (.pointer none) := ⟨hk1.below hb3 hk1.lt, by rw [hW3, ← hs1]; exact Blk.made W1 _ _⟩
  have hbw : Below w.heap.size w W3 := hb1.trans (hb3.mono hb1.size)
  have HQ := hide (hq.below hbw hq.lt)
  have HD := hide hd3
  have HP := hide (p.below hbw)
  have HBw := hide hbw
  have HSY := hide (And.intro hs ht)
  have e0 : W3.cell? ⟨w.heap.size, 0, none⟩ = some (.int .i64 1) := (hd3.st.cell 0).trans sa.c0
  have e1 : W3.cell? ⟨w.heap.size + 1, 0, none⟩ = some (.pointer none) := hd3.pr.cell 0
  have e2 : W3.cell? ⟨w.heap.size + 1, 1, none⟩ = some (.pointer none) := hd3.pr.cell 1
  have n1 := eqNilR
  have n2 := eqSomeR
  have HSA := hide sa
  have HKey := hide (key_range hd3.st sa)
  have HK32 : Hid ((kb.map u8c).length = 32) := hide (by rw [List.length_map]; exact sa.k32)
  have C := hide (add_nil W3 (kb.map u8c).toArray)
  clear hb1 hk1 hs1 hq1 hb3 hd3 hbw p hq hs ht sa
  go_enter Try.func11, Try.ntmps11
  rw [hW1] at hW3
  rw [hW3] at e0 e1 e2
  rw [hW1] at c1 d0 d1
  go_wp2_with (first | ((with_reducible refine wpList_load_mid rfl 36 _ rfl w.heap.size 2 rfl (kb.map u8c) _ ?key Try.underlying36 rfl ?keyn ?_)) | fail)
  case key => rw [← hW3]; exact HKey.out
  case keyn => rw [HK32.out]; exact infoKey
  rw [← hW3]
  refine C.out.mono ?_
  rintro e w4 ⟨rfl, hb4⟩
  have HP4 := hide (HP.out.below hb4)
  have HQ4 := hide (HQ.out.below hb4 HQ.out.lt)
  have HBw4 := hide (HBw.out.trans (hb4.mono HBw.out.size))
  clear hW1 hW3 c1 d0 d1 e0 e1 e2 hb4 HP HQ HD HKey
  go_wp2
  go_ret
  exact ⟨rfl, none, trivial, HP4.out, HQ4.out, fun b cs hb => hb.below HBw4.out hb.lt⟩
set_option maxRecDepth 20000 in
set_option maxHeartbeats 8000000 in
theorem done_hasN1 (w0 w : World) (q : Nat) (t : Option Sl) (SC : Array Value) (F B H : Int) (kb : List UInt8) (sa : StepAt SC 2 F B H kb) (hF : bits .and .i64 F 1 = 1) (p : PQ w0 w none t) (hs : syO none) (ht : syO t) (hq : Blk w q (cells2 1 none t) 30) : Calls Try.prog 11 #[.slice (some ⟨q, 0, none⟩) 2 2, .agg SC] w (DoneC w0 w q 1 t) := by
  obtain ⟨W1, hW1⟩ : ∃ W1, W1 = w.alloc (.cells SC 38) := ⟨_, rfl⟩
  have hb1 : Below w.heap.size w W1 := by rw [hW1]; exact (Below.refl _ _).alloc (Nat.le_refl _) _
  have hk1 : Blk W1 w.heap.size SC 38 := by rw [hW1]; exact Blk.made w _ _
  have hs1 : W1.heap.size = w.heap.size + 1 := by rw [hW1, World.size_alloc]
  have hq1 := hq.below hb1 hq.lt
  have c1 : W1.cell? ⟨w.heap.size, 1, none⟩ = some (.int .i64 F) := (hk1.cell 1).trans sa.c1
  have d0 : W1.cell? ⟨q, 2, none⟩ = some (.pointer none) := hq1.cell 2
  have d1 : W1.cell? ⟨q, 3, none⟩ = some (.pointer none) := hq1.cell 3
  obtain ⟨W3, hW3⟩ : ∃ W3, W3 = W1.alloc (.cells #[.pointer none, .pointer none] 30) := ⟨_, rfl⟩
  have hb3 : Below W1.heap.size W1 W3 := by rw [hW3]; exact (Below.refl _ _).alloc (Nat.le_refl _) _
  have hd3 : DS W3 w.heap.size (w.heap.size + 1) SC (.pointer none) (.pointer none) := ⟨hk1.below hb3 hk1.lt, by rw [hW3, ← hs1]; exact Blk.made W1 _ _⟩
  have hbw : Below w.heap.size w W3 := hb1.trans (hb3.mono hb1.size)
  have HQ := hide (hq.below hbw hq.lt)
  have HD := hide hd3
  have HP := hide (p.below hbw)
  have HBw := hide hbw
  have HSY := hide (And.intro hs ht)
  have e0 : W3.cell? ⟨w.heap.size, 0, none⟩ = some (.int .i64 2) := (hd3.st.cell 0).trans sa.c0
  have e1 : W3.cell? ⟨w.heap.size + 1, 0, none⟩ = some (.pointer none) := hd3.pr.cell 0
  have e2 : W3.cell? ⟨w.heap.size + 1, 1, none⟩ = some (.pointer none) := hd3.pr.cell 1
  have n1 := eqNilR
  have n2 := eqSomeR
  have HSA := hide sa
  have HKey := hide (key_range hd3.st sa)
  have HK32 : Hid ((kb.map u8c).length = 32) := hide (by rw [List.length_map]; exact sa.k32)
  have C := hide (has_nil W3 (kb.map u8c).toArray)
  clear hb1 hk1 hs1 hq1 hb3 hd3 hbw p hq hs ht sa
  go_enter Try.func11, Try.ntmps11
  rw [hW1] at hW3
  rw [hW3] at e0 e1 e2
  rw [hW1] at c1 d0 d1
  go_wp2_with (first | ((with_reducible refine wpList_load_mid rfl 36 _ rfl w.heap.size 2 rfl (kb.map u8c) _ ?key Try.underlying36 rfl ?keyn ?_)) | fail)
  case key => rw [← hW3]; exact HKey.out
  case keyn => rw [HK32.out]; exact infoKey
  rw [← hW3]
  refine C.out.mono ?_
  rintro e w4 ⟨rfl, hb4⟩
  have HP4 := hide (HP.out.below hb4)
  have HQ4 := hide (HQ.out.below hb4 HQ.out.lt)
  have HBw4 := hide (HBw.out.trans (hb4.mono HBw.out.size))
  clear hW1 hW3 c1 d0 d1 e0 e1 e2 hb4 HP HQ HD HKey
  go_wp2
  go_ret
  exact ⟨rfl, none, trivial, HP4.out, HQ4.out, fun b cs hb => hb.below HBw4.out hb.lt⟩
set_option maxRecDepth 20000 in
set_option maxHeartbeats 8000000 in
theorem done_addS1 (w0 w : World) (q : Nat) (s : Sl) (t : Option Sl) (SC : Array Value) (F B H : Int) (kb : List UInt8) (sa : StepAt SC 1 F B H kb) (hF : bits .and .i64 F 1 = 1) (p : PQ w0 w (some s) t) (hs : syO (some s)) (ht : syO t) (hq : Blk w q (cells2 1 (some s) t) 30) : Calls Try.prog 11 #[.slice (some ⟨q, 0, none⟩) 2 2, .agg SC] w (DoneC w0 w q 1 t) := by
  obtain ⟨W1, hW1⟩ : ∃ W1, W1 = w.alloc (.cells SC 38) := ⟨_, rfl⟩
  have hb1 : Below w.heap.size w W1 := by rw [hW1]; exact (Below.refl _ _).alloc (Nat.le_refl _) _
  have hk1 : Blk W1 w.heap.size SC 38 := by rw [hW1]; exact Blk.made w _ _
  have hs1 : W1.heap.size = w.heap.size + 1 := by rw [hW1, World.size_alloc]
  have hq1 := hq.below hb1 hq.lt
  have c1 : W1.cell? ⟨w.heap.size, 1, none⟩ = some (.int .i64 F) := (hk1.cell 1).trans sa.c1
  have d0 : W1.cell? ⟨q, 2, none⟩ = some (.pointer (some ⟨s.zf, 0, none⟩)) := hq1.cell 2
  have d1 : W1.cell? ⟨q, 3, none⟩ = some (.pointer (some ⟨s.zr, 0, none⟩)) := hq1.cell 3
  obtain ⟨W3, hW3⟩ : ∃ W3, W3 = W1.alloc (.cells #[.pointer (some ⟨s.zf, 0, none⟩), .pointer (some ⟨s.zr, 0, none⟩)] 30) := ⟨_, rfl⟩
  have hb3 : Below W1.heap.size W1 W3 := by rw [hW3]; exact (Below.refl _ _).alloc (Nat.le_refl _) _
  have hd3 : DS W3 w.heap.size (w.heap.size + 1) SC (.pointer (some ⟨s.zf, 0, none⟩)) (.pointer (some ⟨s.zr, 0, none⟩)) := ⟨hk1.below hb3 hk1.lt, by rw [hW3, ← hs1]; exact Blk.made W1 _ _⟩
  have hbw : Below w.heap.size w W3 := hb1.trans (hb3.mono hb1.size)
  have HQ := hide (hq.below hbw hq.lt)
  have HD := hide hd3
  have HP := hide (p.below hbw)
  have HBw := hide hbw
  have HSY := hide (And.intro hs ht)
  have e0 : W3.cell? ⟨w.heap.size, 0, none⟩ = some (.int .i64 1) := (hd3.st.cell 0).trans sa.c0
  have e1 : W3.cell? ⟨w.heap.size + 1, 0, none⟩ = some (.pointer (some ⟨s.zf, 0, none⟩)) := hd3.pr.cell 0
  have e2 : W3.cell? ⟨w.heap.size + 1, 1, none⟩ = some (.pointer (some ⟨s.zr, 0, none⟩)) := hd3.pr.cell 1
  have n1 := eqNilR
  have n2 := eqSomeR
  have HSA := hide sa
  have HKey := hide (key_range hd3.st sa)
  have HK32 : Hid ((kb.map u8c).length = 32) := hide (by rw [List.length_map]; exact sa.k32)
  obtain ⟨r, hr⟩ : ∃ r, r = (addK s.ws (keyA kb) (keyB kb) s.h).2 := ⟨_, rfl⟩
  obtain ⟨xs, hxs⟩ : ∃ xs, xs = (addK s.ws (keyA kb) (keyB kb) s.h).1 := ⟨_, rfl⟩
  have hsy : s.ws = s.us := hs
  have HD3 : Hid (PQ w0 W3.drew (some s) t) := hide (HP.out.below (below_drewN' (Below.refl _ _) 1))
  have C1 : Hid (Calls Try.prog 23 #[.pointer (some ⟨s.zf, 0, none⟩), .agg (kb.map u8c).toArray] W3.drew fun e w' => e = .returned (.bool r) ∧ (PQ w0 w' (some { s with ws := xs }) t ∧ KeepT W3 w') ∧ KeepT W3.drew w') := hide (by
    have ka : SlOk W3.drew s := HD3.out.a
    refine (add_any W3.drew s.zf s.gf s.h s.ws ka.f kb sa.k32).mono ?_
    rintro e w' ⟨he, hf, hg⟩
    rw [← hr] at he
    rw [← hxs] at hf
    exact ⟨he, ⟨HD3.out.setF hf hg, (KeepT.below (below_drewN' (Below.refl _ _) 1)).trans (KeepT.grown hg ka.f.gb nk64)⟩, KeepT.grown hg ka.f.gb nk64⟩)
  have C2 : Hid (∀ w1, (PQ w0 w1 (some { s with ws := xs }) t ∧ KeepT W3 w1) → Calls Try.prog 30 #[.pointer (some ⟨s.zr, 0, none⟩), .agg (kb.map u8c).toArray] w1 fun e w' => e = .returned (.bool r) ∧ (PQ w0 w' (some { s with ws := xs, us := xs }) t ∧ KeepT W3 w') ∧ KeepT w1 w') := hide (fun w1 ⟨p1, k1⟩ => by
    have ka : SlOk w1 { s with ws := xs } := p1.a
    refine (radd_any w1 s.zr s.gr s.c s.h s.us ka.r kb sa.k32).mono ?_
    rintro e w' ⟨he, hf, hg⟩
    rw [← hsy, ← hr] at he
    rw [← hsy, ← hxs] at hf
    obtain ⟨cur, hcur⟩ := ka.r.gb'
    exact ⟨he, ⟨p1.setR hf hg, k1.trans (KeepT.grown hg hcur nkBo)⟩, KeepT.grown hg hcur nkBo⟩)
  clear hsy hr hxs HD3
  clear hb1 hk1 hs1 hq1 hb3 hd3 hbw p hq hs ht sa
  go_enter Try.func11, Try.ntmps11
  rw [hW1] at hW3
  rw [hW3] at e0 e1 e2
  rw [hW1] at c1 d0 d1
  go_wp2
  rw [← hW3]
  refine da_walk _ (fun _ _ _ _ _ h => h) W3 w.heap.size (w.heap.size + 1) s.zf s.zr SC 1 F B H kb r _ _ HSA.out HD.out C1.out C2.out _ (Nat.lt_of_sub_pos (by exact Nat.succ_pos _)) rfl rfl ?_
  rintro w4 ⟨hp4, hk4⟩ -
  have HP4 := hide hp4
  have HK4 := hide hk4
  have HQ4 := hide (hk4.blk _ _ _ (.inl rfl) HQ.out)
  clear hp4 hk4 hW1 hW3 c1 d0 d1 e0 e1 e2 HP HQ HD HKey C1 C2
  simp only [Act.put, List.setIfInBounds_toArray, List.set_cons_zero, List.set_cons_succ]
  go_wp2
  go_ret
  exact ⟨rfl, some { s with ws := xs, us := xs }, rfl, HP4.out, HQ4.out, fun b cs hb => HK4.out.blk _ _ _ (.inr (.inr rfl)) (hb.below HBw.out hb.lt)⟩
set_option maxRecDepth 20000 in
set_option maxHeartbeats 8000000 in
theorem done_hasS1 (w0 w : World) (q : Nat) (s : Sl) (t : Option Sl) (SC : Array Value) (F B H : Int) (kb : List UInt8) (sa : StepAt SC 2 F B H kb) (hF : bits .and .i64 F 1 = 1) (p : PQ w0 w (some s) t) (hs : syO (some s)) (ht : syO t) (hq : Blk w q (cells2 1 (some s) t) 30) : Calls Try.prog 11 #[.slice (some ⟨q, 0, none⟩) 2 2, .agg SC] w (DoneC w0 w q 1 t) := by
  obtain ⟨W1, hW1⟩ : ∃ W1, W1 = w.alloc (.cells SC 38) := ⟨_, rfl⟩
  have hb1 : Below w.heap.size w W1 := by rw [hW1]; exact (Below.refl _ _).alloc (Nat.le_refl _) _
  have hk1 : Blk W1 w.heap.size SC 38 := by rw [hW1]; exact Blk.made w _ _
  have hs1 : W1.heap.size = w.heap.size + 1 := by rw [hW1, World.size_alloc]
  have hq1 := hq.below hb1 hq.lt
  have c1 : W1.cell? ⟨w.heap.size, 1, none⟩ = some (.int .i64 F) := (hk1.cell 1).trans sa.c1
  have d0 : W1.cell? ⟨q, 2, none⟩ = some (.pointer (some ⟨s.zf, 0, none⟩)) := hq1.cell 2
  have d1 : W1.cell? ⟨q, 3, none⟩ = some (.pointer (some ⟨s.zr, 0, none⟩)) := hq1.cell 3
  obtain ⟨W3, hW3⟩ : ∃ W3, W3 = W1.alloc (.cells #[.pointer (some ⟨s.zf, 0, none⟩), .pointer (some ⟨s.zr, 0, none⟩)] 30) := ⟨_, rfl⟩
  have hb3 : Below W1.heap.size W1 W3 := by rw [hW3]; exact (Below.refl _ _).alloc (Nat.le_refl _) _
  have hd3 : DS W3 w.heap.size (w.heap.size + 1) SC (.pointer (some ⟨s.zf, 0, none⟩)) (.pointer (some ⟨s.zr, 0, none⟩)) := ⟨hk1.below hb3 hk1.lt, by rw [hW3, ← hs1]; exact Blk.made W1 _ _⟩
  have hbw : Below w.heap.size w W3 := hb1.trans (hb3.mono hb1.size)
  have HQ := hide (hq.below hbw hq.lt)
  have HD := hide hd3
  have HP := hide (p.below hbw)
  have HBw := hide hbw
  have HSY := hide (And.intro hs ht)
  have e0 : W3.cell? ⟨w.heap.size, 0, none⟩ = some (.int .i64 2) := (hd3.st.cell 0).trans sa.c0
  have e1 : W3.cell? ⟨w.heap.size + 1, 0, none⟩ = some (.pointer (some ⟨s.zf, 0, none⟩)) := hd3.pr.cell 0
  have e2 : W3.cell? ⟨w.heap.size + 1, 1, none⟩ = some (.pointer (some ⟨s.zr, 0, none⟩)) := hd3.pr.cell 1
  have n1 := eqNilR
  have n2 := eqSomeR
  have HSA := hide sa
  have HKey := hide (key_range hd3.st sa)
  have HK32 : Hid ((kb.map u8c).length = 32) := hide (by rw [List.length_map]; exact sa.k32)
  obtain ⟨r, hr⟩ : ∃ r, r = hasK s.ws (keyA kb) (keyB kb) s.h := ⟨_, rfl⟩
  have hsy : s.ws = s.us := hs
  have HD3 : Hid (PQ w0 W3.drew (some s) t) := hide (HP.out.below (below_drewN' (Below.refl _ _) 1))
  have C1 : Hid (Calls Try.prog 26 #[.pointer (some ⟨s.zf, 0, none⟩), .agg (kb.map u8c).toArray] W3.drew fun e w' => e = .returned (.bool r) ∧ (PQ w0 w' (some s) t ∧ KeepT W3 w') ∧ KeepT W3.drew w') := hide (by
    have ka : SlOk W3.drew s := HD3.out.a
    refine (has_any W3.drew s.zf s.gf s.h s.ws ka.f kb sa.k32).mono ?_
    rintro e w' ⟨he, hg⟩
    rw [← hr] at he
    exact ⟨he, ⟨HD3.out.below hg, (KeepT.below (below_drewN' (Below.refl _ _) 1)).trans (KeepT.below hg)⟩, KeepT.below hg⟩)
  have C2 : Hid (∀ w1, (PQ w0 w1 (some s) t ∧ KeepT W3 w1) → Calls Try.prog 31 #[.pointer (some ⟨s.zr, 0, none⟩), .agg (kb.map u8c).toArray] w1 fun e w' => e = .returned (.bool r) ∧ (PQ w0 w' (some s) t ∧ KeepT W3 w') ∧ KeepT w1 w') := hide (fun w1 ⟨p1, k1⟩ => by
    have ka : SlOk w1 s := p1.a
    refine (rhas_any w1 s.zr s.gr s.c s.h s.us ka.r kb sa.k32).mono ?_
    rintro e w' ⟨he, hg⟩
    rw [← hsy, ← hr] at he
    exact ⟨he, ⟨p1.below hg, k1.trans (KeepT.below hg)⟩, KeepT.below hg⟩)
  clear hsy hr HD3
  clear hb1 hk1 hs1 hq1 hb3 hd3 hbw p hq hs ht sa
  go_enter Try.func11, Try.ntmps11
  rw [hW1] at hW3
  rw [hW3] at e0 e1 e2
  rw [hW1] at c1 d0 d1
  go_wp2
  rw [← hW3]
  refine db_walk _ (fun _ _ _ _ _ h => h) W3 w.heap.size (w.heap.size + 1) s.zf s.zr SC 2 F B H kb r _ _ HSA.out HD.out C1.out C2.out _ (Nat.lt_of_sub_pos (by exact Nat.succ_pos _)) rfl rfl ?_
  rintro w4 ⟨hp4, hk4⟩ -
  have HP4 := hide hp4
  have HK4 := hide hk4
  have HQ4 := hide (hk4.blk _ _ _ (.inl rfl) HQ.out)
  clear hp4 hk4 hW1 hW3 c1 d0 d1 e0 e1 e2 HP HQ HD HKey C1 C2
  simp only [Act.put, List.setIfInBounds_toArray, List.set_cons_zero, List.set_cons_succ]
  go_wp2
  go_ret
  exact ⟨rfl, some s, HSY.out.1, HP4.out, HQ4.out, fun b cs hb => HK4.out.blk _ _ _ (.inr (.inr rfl)) (hb.below HBw.out hb.lt)⟩
end Go.Proofs.Ytbemmhngadpjcaa
