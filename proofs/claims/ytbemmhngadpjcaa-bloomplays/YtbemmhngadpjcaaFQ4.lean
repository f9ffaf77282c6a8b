/- BloomPlays: two pairs joined or met. -/
import Derived.Test.YtbemmhngadpjcaaFQ3
namespace Go.Proofs.Ytbemmhngadpjcaa
set_option linter.unusedVariables false
set_option linter.unusedSimpArgs false
open Go.RowKit

def tyK (ty : TypeId) : Prop := ty = 30 ∨ ty = 38 ∨ ty = 25
/-- Blocks of the law's own kinds stay. -/
structure KeepT (w w' : World) : Prop where
  size : w.heap.size ≤ w'.heap.size
  blk : ∀ b cs ty, tyK ty → Blk w b cs ty → Blk w' b cs ty
theorem KeepT.refl (w : World) : KeepT w w := ⟨Nat.le_refl _, fun _ _ _ _ h => h⟩
theorem KeepT.trans {a b c : World} (h : KeepT a b) (k : KeepT b c) : KeepT a c := ⟨Nat.le_trans h.size k.size, fun q cs ty ht hq => k.blk q cs ty ht (h.blk q cs ty ht hq)⟩
theorem KeepT.below {w w' : World} (h : Below w.heap.size w w') : KeepT w w' := ⟨h.size, fun _ _ _ _ hq => hq.below h hq.lt⟩
theorem KeepT.grown {w w' : World} {g : Nat} {cs : Array Value} {t : TypeId} (h : w.grownBy w' (some g)) (hB : Blk w g cs t) (ht : ¬ tyK t) : KeepT w w' :=
  ⟨h.size, fun q ds ty hk hq => hq.grown h (snn (blk_ne hq hB (fun e => ht (e ▸ hk))))⟩
theorem nk64 : ¬ tyK 80 := by unfold tyK; decide
theorem nkBo : ¬ tyK 4 := by unfold tyK; decide
theorem nkRF : ¬ tyK 71 := by unfold tyK; decide
theorem nkU8 : ¬ tyK 5 := by unfold tyK; decide
def WithP (w0 w : World) (s t : Option Sl) (e : Ending) (w' : World) : Prop :=
  e = .returned (.bool true) ∧ ∃ s', syO s' ∧ slF s' = slF s ∧ slR s' = slR s ∧ PQ w0 w' s' t ∧ KeepT w w'
theorem neNilR (w : World) : (binOp .neq 28 (.pointer none) (.pointer none)).run Try.prog w = .ok (.bool false) w := by kernel_rfl
theorem neSomeR (z : Nat) (w : World) : (binOp .neq 28 (.pointer (some ⟨z, 0, none⟩)) (.pointer none)).run Try.prog w = .ok (.bool true) w := by kernel_rfl
set_option maxRecDepth 20000 in
set_option maxHeartbeats 4000000 in
theorem with_meet_nil (w : World) (x y : Value) : Calls Try.prog 32 #[.agg #[.pointer none, .pointer none], .agg #[x, y], .bool true] w (BlC w true) := by
  obtain ⟨W1, hW1⟩ : ∃ W1, W1 = (w.alloc (.cells #[.pointer none, .pointer none] 30)).alloc (.cells #[x, y] 30) := ⟨_, rfl⟩
  have hb1 : Below w.heap.size w W1 := by rw [hW1]; exact ((Below.refl _ _).alloc (Nat.le_refl _) _).alloc (by simp) _
  have hk1 : Blk W1 w.heap.size #[.pointer none, .pointer none] 30 := by rw [hW1]; exact (Blk.made w _ _).alloc _
  have hk2 : Blk W1 (w.heap.size + 1) #[x, y] 30 := by
    have := Blk.made (w.alloc (.cells #[.pointer none, .pointer none] 30)) #[x, y] 30
    rw [World.size_alloc] at this
    rw [hW1]
    exact this
  have c0 : W1.cell? ⟨w.heap.size, 0, none⟩ = _ := hk1.cell 0
  have c1 : W1.cell? ⟨w.heap.size, 1, none⟩ = _ := hk1.cell 1
  have c2 : W1.cell? ⟨w.heap.size + 1, 0, none⟩ = _ := hk2.cell 0
  have c3 : W1.cell? ⟨w.heap.size + 1, 1, none⟩ = _ := hk2.cell 1
  have HB1 := hide hb1
  have n1 := neNilR
  have n2 := neSomeR
  have C := hide (meet_nil W1 x)
  clear hb1 hk1 hk2
  go_enter Try.func32, Try.ntmps32
  rw [hW1] at c0 c1 c2 c3
  go_wp2_with fail
  rw [← hW1]
  refine C.out.mono ?_
  rintro e w2 ⟨rfl, hb2⟩
  have HB2 := hide (HB1.out.trans (hb2.mono HB1.out.size))
  clear hW1 c0 c1 c2 c3 hb2
  go_wp2
  go_ret
  exact ⟨rfl, HB2.out⟩
set_option maxRecDepth 20000 in
set_option maxHeartbeats 4000000 in
theorem with_meet_nil2 (w : World) (z g z2 h : Nat) (ws : List Nat) (f : FilAt w z g h ws) : Calls Try.prog 32 #[.agg #[.pointer (some ⟨z, 0, none⟩), .pointer (some ⟨z2, 0, none⟩)], .agg #[.pointer none, .pointer none], .bool true] w (BlC w true) := by
  obtain ⟨W1, hW1⟩ : ∃ W1, W1 = (w.alloc (.cells #[.pointer (some ⟨z, 0, none⟩), .pointer (some ⟨z2, 0, none⟩)] 30)).alloc (.cells #[.pointer none, .pointer none] 30) := ⟨_, rfl⟩
  have hb1 : Below w.heap.size w W1 := by rw [hW1]; exact ((Below.refl _ _).alloc (Nat.le_refl _) _).alloc (by simp) _
  have hk1 : Blk W1 w.heap.size #[.pointer (some ⟨z, 0, none⟩), .pointer (some ⟨z2, 0, none⟩)] 30 := by rw [hW1]; exact (Blk.made w _ _).alloc _
  have hk2 : Blk W1 (w.heap.size + 1) #[.pointer none, .pointer none] 30 := by
    have := Blk.made (w.alloc (.cells #[.pointer (some ⟨z, 0, none⟩), .pointer (some ⟨z2, 0, none⟩)] 30)) #[.pointer none, .pointer none] 30
    rw [World.size_alloc] at this
    rw [hW1]
    exact this
  have c0 : W1.cell? ⟨w.heap.size, 0, none⟩ = _ := hk1.cell 0
  have c1 : W1.cell? ⟨w.heap.size, 1, none⟩ = _ := hk1.cell 1
  have c2 : W1.cell? ⟨w.heap.size + 1, 0, none⟩ = _ := hk2.cell 0
  have c3 : W1.cell? ⟨w.heap.size + 1, 1, none⟩ = _ := hk2.cell 1
  have HB1 := hide hb1
  have n1 := neNilR
  have n2 := neSomeR
  have C := hide (meet_nil2 W1 z g h ws (f.below hb1))
  clear hb1 hk1 hk2 f
  go_enter Try.func32, Try.ntmps32
  rw [hW1] at c0 c1 c2 c3
  go_wp2_with fail
  rw [← hW1]
  refine C.out.mono ?_
  rintro e w2 ⟨rfl, hb2⟩
  have HB2 := hide (HB1.out.trans (hb2.mono HB1.out.size))
  clear hW1 c0 c1 c2 c3 hb2
  go_wp2
  go_ret
  exact ⟨rfl, HB2.out⟩
set_option maxRecDepth 20000 in
set_option maxHeartbeats 4000000 in
theorem with_join_nil (w : World) (x y : Value) : Calls Try.prog 32 #[.agg #[.pointer none, .pointer none], .agg #[x, y], .bool false] w (BlC w true) := by
  obtain ⟨W1, hW1⟩ : ∃ W1, W1 = (w.alloc (.cells #[.pointer none, .pointer none] 30)).alloc (.cells #[x, y] 30) := ⟨_, rfl⟩
  have hb1 : Below w.heap.size w W1 := by rw [hW1]; exact ((Below.refl _ _).alloc (Nat.le_refl _) _).alloc (by simp) _
  have hk1 : Blk W1 w.heap.size #[.pointer none, .pointer none] 30 := by rw [hW1]; exact (Blk.made w _ _).alloc _
  have hk2 : Blk W1 (w.heap.size + 1) #[x, y] 30 := by
    have := Blk.made (w.alloc (.cells #[.pointer none, .pointer none] 30)) #[x, y] 30
    rw [World.size_alloc] at this
    rw [hW1]
    exact this
  have c0 : W1.cell? ⟨w.heap.size, 0, none⟩ = _ := hk1.cell 0
  have c1 : W1.cell? ⟨w.heap.size, 1, none⟩ = _ := hk1.cell 1
  have c2 : W1.cell? ⟨w.heap.size + 1, 0, none⟩ = _ := hk2.cell 0
  have c3 : W1.cell? ⟨w.heap.size + 1, 1, none⟩ = _ := hk2.cell 1
  have HB1 := hide hb1
  have n1 := neNilR
  have n2 := neSomeR
  have C := hide (join_nil W1 x)
  clear hb1 hk1 hk2
  go_enter Try.func32, Try.ntmps32
  rw [hW1] at c0 c1 c2 c3
  go_wp2_with fail
  rw [← hW1]
  refine C.out.mono ?_
  rintro e w2 ⟨rfl, hb2⟩
  have HB2 := hide (HB1.out.trans (hb2.mono HB1.out.size))
  clear hW1 c0 c1 c2 c3 hb2
  go_wp2
  go_ret
  exact ⟨rfl, HB2.out⟩
set_option maxRecDepth 20000 in
set_option maxHeartbeats 4000000 in
theorem with_join_nil2 (w : World) (z g z2 h : Nat) (ws : List Nat) (f : FilAt w z g h ws) : Calls Try.prog 32 #[.agg #[.pointer (some ⟨z, 0, none⟩), .pointer (some ⟨z2, 0, none⟩)], .agg #[.pointer none, .pointer none], .bool false] w (BlC w true) := by
  obtain ⟨W1, hW1⟩ : ∃ W1, W1 = (w.alloc (.cells #[.pointer (some ⟨z, 0, none⟩), .pointer (some ⟨z2, 0, none⟩)] 30)).alloc (.cells #[.pointer none, .pointer none] 30) := ⟨_, rfl⟩
  have hb1 : Below w.heap.size w W1 := by rw [hW1]; exact ((Below.refl _ _).alloc (Nat.le_refl _) _).alloc (by simp) _
  have hk1 : Blk W1 w.heap.size #[.pointer (some ⟨z, 0, none⟩), .pointer (some ⟨z2, 0, none⟩)] 30 := by rw [hW1]; exact (Blk.made w _ _).alloc _
  have hk2 : Blk W1 (w.heap.size + 1) #[.pointer none, .pointer none] 30 := by
    have := Blk.made (w.alloc (.cells #[.pointer (some ⟨z, 0, none⟩), .pointer (some ⟨z2, 0, none⟩)] 30)) #[.pointer none, .pointer none] 30
    rw [World.size_alloc] at this
    rw [hW1]
    exact this
  have c0 : W1.cell? ⟨w.heap.size, 0, none⟩ = _ := hk1.cell 0
  have c1 : W1.cell? ⟨w.heap.size, 1, none⟩ = _ := hk1.cell 1
  have c2 : W1.cell? ⟨w.heap.size + 1, 0, none⟩ = _ := hk2.cell 0
  have c3 : W1.cell? ⟨w.heap.size + 1, 1, none⟩ = _ := hk2.cell 1
  have HB1 := hide hb1
  have n1 := neNilR
  have n2 := neSomeR
  have C := hide (join_nil2 W1 z g h ws (f.below hb1))
  clear hb1 hk1 hk2 f
  go_enter Try.func32, Try.ntmps32
  rw [hW1] at c0 c1 c2 c3
  go_wp2_with fail
  rw [← hW1]
  refine C.out.mono ?_
  rintro e w2 ⟨rfl, hb2⟩
  have HB2 := hide (HB1.out.trans (hb2.mono HB1.out.size))
  clear hW1 c0 c1 c2 c3 hb2
  go_wp2
  go_ret
  exact ⟨rfl, HB2.out⟩
set_option maxRecDepth 20000 in
set_option maxHeartbeats 4000000 in
theorem with_meet_no (w : World) (s t : Sl) (k : SlOk w s) (k2 : SlOk w t) (hs : s.ws = s.us) (ht : t.ws = t.us) (hno : ¬ (s.h = t.h ∧ s.ws.length = t.ws.length)) : Calls Try.prog 32 #[.agg #[.pointer (some ⟨s.zf, 0, none⟩), .pointer (some ⟨s.zr, 0, none⟩)], .agg #[.pointer (some ⟨t.zf, 0, none⟩), .pointer (some ⟨t.zr, 0, none⟩)], .bool true] w (BlC w true) := by
  obtain ⟨zf, gf, zr, gr, c, h, ws, us⟩ := s
  obtain ⟨zf2, gf2, zr2, gr2, c2', h2, ws2, us2⟩ := t
  obtain ⟨kf, kr⟩ := k
  obtain ⟨k2f, k2r⟩ := k2
  simp only at kf kr k2f k2r hs ht hno ⊢
  obtain ⟨W1, hW1⟩ : ∃ W1, W1 = (w.alloc (.cells #[.pointer (some ⟨zf, 0, none⟩), .pointer (some ⟨zr, 0, none⟩)] 30)).alloc (.cells #[.pointer (some ⟨zf2, 0, none⟩), .pointer (some ⟨zr2, 0, none⟩)] 30) := ⟨_, rfl⟩
  have hb1 : Below w.heap.size w W1 := by rw [hW1]; exact ((Below.refl _ _).alloc (Nat.le_refl _) _).alloc (by simp) _
  have hk1 : Blk W1 w.heap.size #[.pointer (some ⟨zf, 0, none⟩), .pointer (some ⟨zr, 0, none⟩)] 30 := by rw [hW1]; exact (Blk.made w _ _).alloc _
  have hk2 : Blk W1 (w.heap.size + 1) #[.pointer (some ⟨zf2, 0, none⟩), .pointer (some ⟨zr2, 0, none⟩)] 30 := by
    have := Blk.made (w.alloc (.cells #[.pointer (some ⟨zf, 0, none⟩), .pointer (some ⟨zr, 0, none⟩)] 30)) #[.pointer (some ⟨zf2, 0, none⟩), .pointer (some ⟨zr2, 0, none⟩)] 30
    rw [World.size_alloc] at this
    rw [hW1]
    exact this
  have c0 : W1.cell? ⟨w.heap.size, 0, none⟩ = _ := hk1.cell 0
  have c1 : W1.cell? ⟨w.heap.size, 1, none⟩ = _ := hk1.cell 1
  have c2 : W1.cell? ⟨w.heap.size + 1, 0, none⟩ = _ := hk2.cell 0
  have c3 : W1.cell? ⟨w.heap.size + 1, 1, none⟩ = _ := hk2.cell 1
  have HB1 := hide hb1
  have n1 := neNilR
  have n2 := neSomeR
  have C1 := hide (rwith_no W1 zr gr c h zr2 gr2 c2' h2 (bitsL us) (bitsL us2) true (kr.below hb1) (k2r.below hb1) (by rw [bitsL_len, bitsL_len, ← hs, ← ht]; omega))
  have C2 := hide (fun W (hW : Below w.heap.size w W) => meet_no W zf gf h zf2 gf2 h2 ws ws2 (kf.below hW) (k2f.below hW) hno)
  have HC0 := hide c0
  have HC2 := hide c2
  clear hb1 hk1 hk2 kf kr k2f k2r hs ht hno
  go_enter Try.func32, Try.ntmps32
  rw [hW1] at c0 c1 c2 c3
  go_wp2_with fail
  rw [← hW1]
  refine C1.out.mono ?_
  rintro e w2 ⟨rfl, hb2⟩
  have HB2 := hide (HB1.out.trans (hb2.mono HB1.out.size))
  have C3 := hide (C2.out w2 HB2.out)
  clear c0 c1 c2 c3 hW1
  have c0 := (hb2.cell (World.block_lt_of_cell? _ _ HC0.out)).trans HC0.out
  have c2 := (hb2.cell (World.block_lt_of_cell? _ _ HC2.out)).trans HC2.out
  clear hb2 C1 C2 HC0 HC2
  go_wp2_with fail
  refine C3.out.mono ?_
  rintro e w3 ⟨rfl, hb3⟩
  have HB3 := hide (HB2.out.trans (hb3.mono HB2.out.size))
  clear c0 c2 hb3
  go_wp2
  go_ret
  exact ⟨rfl, HB3.out⟩
set_option maxRecDepth 20000 in
set_option maxHeartbeats 4000000 in
theorem with_join_no (w : World) (s t : Sl) (k : SlOk w s) (k2 : SlOk w t) (hs : s.ws = s.us) (ht : t.ws = t.us) (hno : ¬ (s.h = t.h ∧ s.ws.length = t.ws.length)) : Calls Try.prog 32 #[.agg #[.pointer (some ⟨s.zf, 0, none⟩), .pointer (some ⟨s.zr, 0, none⟩)], .agg #[.pointer (some ⟨t.zf, 0, none⟩), .pointer (some ⟨t.zr, 0, none⟩)], .bool false] w (BlC w true) := by
  obtain ⟨zf, gf, zr, gr, c, h, ws, us⟩ := s
  obtain ⟨zf2, gf2, zr2, gr2, c2', h2, ws2, us2⟩ := t
  obtain ⟨kf, kr⟩ := k
  obtain ⟨k2f, k2r⟩ := k2
  simp only at kf kr k2f k2r hs ht hno ⊢
  obtain ⟨W1, hW1⟩ : ∃ W1, W1 = (w.alloc (.cells #[.pointer (some ⟨zf, 0, none⟩), .pointer (some ⟨zr, 0, none⟩)] 30)).alloc (.cells #[.pointer (some ⟨zf2, 0, none⟩), .pointer (some ⟨zr2, 0, none⟩)] 30) := ⟨_, rfl⟩
  have hb1 : Below w.heap.size w W1 := by rw [hW1]; exact ((Below.refl _ _).alloc (Nat.le_refl _) _).alloc (by simp) _
  have hk1 : Blk W1 w.heap.size #[.pointer (some ⟨zf, 0, none⟩), .pointer (some ⟨zr, 0, none⟩)] 30 := by rw [hW1]; exact (Blk.made w _ _).alloc _
  have hk2 : Blk W1 (w.heap.size + 1) #[.pointer (some ⟨zf2, 0, none⟩), .pointer (some ⟨zr2, 0, none⟩)] 30 := by
    have := Blk.made (w.alloc (.cells #[.pointer (some ⟨zf, 0, none⟩), .pointer (some ⟨zr, 0, none⟩)] 30)) #[.pointer (some ⟨zf2, 0, none⟩), .pointer (some ⟨zr2, 0, none⟩)] 30
    rw [World.size_alloc] at this
    rw [hW1]
    exact this
  have c0 : W1.cell? ⟨w.heap.size, 0, none⟩ = _ := hk1.cell 0
  have c1 : W1.cell? ⟨w.heap.size, 1, none⟩ = _ := hk1.cell 1
  have c2 : W1.cell? ⟨w.heap.size + 1, 0, none⟩ = _ := hk2.cell 0
  have c3 : W1.cell? ⟨w.heap.size + 1, 1, none⟩ = _ := hk2.cell 1
  have HB1 := hide hb1
  have n1 := neNilR
  have n2 := neSomeR
  have C1 := hide (rwith_no W1 zr gr c h zr2 gr2 c2' h2 (bitsL us) (bitsL us2) false (kr.below hb1) (k2r.below hb1) (by rw [bitsL_len, bitsL_len, ← hs, ← ht]; omega))
  have C2 := hide (fun W (hW : Below w.heap.size w W) => join_no W zf gf h zf2 gf2 h2 ws ws2 (kf.below hW) (k2f.below hW) hno)
  have HC0 := hide c0
  have HC2 := hide c2
  clear hb1 hk1 hk2 kf kr k2f k2r hs ht hno
  go_enter Try.func32, Try.ntmps32
  rw [hW1] at c0 c1 c2 c3
  go_wp2_with fail
  rw [← hW1]
  refine C1.out.mono ?_
  rintro e w2 ⟨rfl, hb2⟩
  have HB2 := hide (HB1.out.trans (hb2.mono HB1.out.size))
  have C3 := hide (C2.out w2 HB2.out)
  clear c0 c1 c2 c3 hW1
  have c0 := (hb2.cell (World.block_lt_of_cell? _ _ HC0.out)).trans HC0.out
  have c2 := (hb2.cell (World.block_lt_of_cell? _ _ HC2.out)).trans HC2.out
  clear hb2 C1 C2 HC0 HC2
  go_wp2_with fail
  refine C3.out.mono ?_
  rintro e w3 ⟨rfl, hb3⟩
  have HB3 := hide (HB2.out.trans (hb3.mono HB2.out.size))
  clear c0 c2 hb3
  go_wp2
  go_ret
  exact ⟨rfl, HB3.out⟩
set_option maxRecDepth 20000 in
set_option maxHeartbeats 4000000 in
theorem with_meet_ok (w0 w : World) (s t : Sl) (p : PQ w0 w (some s) (some t)) (hs : s.ws = s.us) (ht : t.ws = t.us) (hh : s.h = t.h) (hl : s.ws.length = t.ws.length) : Calls Try.prog 32 #[.agg #[.pointer (some ⟨s.zf, 0, none⟩), .pointer (some ⟨s.zr, 0, none⟩)], .agg #[.pointer (some ⟨t.zf, 0, none⟩), .pointer (some ⟨t.zr, 0, none⟩)], .bool true] w (WithP w0 w (some s) (some t)) := by
  obtain ⟨W1, hW1⟩ : ∃ W1, W1 = (w.alloc (.cells #[.pointer (some ⟨s.zf, 0, none⟩), .pointer (some ⟨s.zr, 0, none⟩)] 30)).alloc (.cells #[.pointer (some ⟨t.zf, 0, none⟩), .pointer (some ⟨t.zr, 0, none⟩)] 30) := ⟨_, rfl⟩
  have hb1 : Below w.heap.size w W1 := by rw [hW1]; exact ((Below.refl _ _).alloc (Nat.le_refl _) _).alloc (by simp) _
  have hk1 : Blk W1 w.heap.size #[.pointer (some ⟨s.zf, 0, none⟩), .pointer (some ⟨s.zr, 0, none⟩)] 30 := by rw [hW1]; exact (Blk.made w _ _).alloc _
  have hk2 : Blk W1 (w.heap.size + 1) #[.pointer (some ⟨t.zf, 0, none⟩), .pointer (some ⟨t.zr, 0, none⟩)] 30 := by
    have := Blk.made (w.alloc (.cells #[.pointer (some ⟨s.zf, 0, none⟩), .pointer (some ⟨s.zr, 0, none⟩)] 30)) #[.pointer (some ⟨t.zf, 0, none⟩), .pointer (some ⟨t.zr, 0, none⟩)] 30
    rw [World.size_alloc] at this
    rw [hW1]
    exact this
  have c0 : W1.cell? ⟨w.heap.size, 0, none⟩ = _ := hk1.cell 0
  have c1 : W1.cell? ⟨w.heap.size, 1, none⟩ = _ := hk1.cell 1
  have c2 : W1.cell? ⟨w.heap.size + 1, 0, none⟩ = _ := hk2.cell 0
  have c3 : W1.cell? ⟨w.heap.size + 1, 1, none⟩ = _ := hk2.cell 1
  have HB1 := hide hb1
  have n1 := neNilR
  have n2 := neSomeR
  have p1 := p.below hb1
  have ka : SlOk W1 s := p1.a
  have kb : SlOk W1 t := p1.b
  have kbr := kb.r
  rw [← hh] at kbr
  have C1 := hide (rwith_any W1 s.zr s.gr s.c s.h t.zr t.gr t.c (bitsL s.us) (bitsL t.us) true ka.r kbr (by rw [bitsL_len, bitsL_len, ← hs, ← ht, hl]))
  have hbits : withL true (bitsL s.us) (bitsL t.us) = bitsL (List.zipWith (fun x y => x &&& y) s.us t.us) := (bitsL_and s.us t.us (by rw [← hs, ← ht]; exact hl)).symm
  rw [hbits] at C1
  have C2 : Hid (∀ (W : World) (s2 : Sl), PQ w0 W (some s2) (some t) → s2.zf = s.zf → s2.gf = s.gf → s2.h = s.h → s2.ws = s.ws → Calls Try.prog 24 #[.pointer (some ⟨s.zf, 0, none⟩), .pointer (some ⟨t.zf, 0, none⟩)] W (WithC W s.zf s.gf s.h (List.zipWith (fun x y => x &&& y) s.ws t.ws))) := hide (fun W s2 q e1 e2 e3 e4 => by
    have qa : SlOk W s2 := q.a
    have qb : SlOk W t := q.b
    have fa := qa.f
    have fb := qb.f
    rw [e1, e2, e3, e4] at fa
    rw [← hh] at fb
    exact meet_any W s.zf s.gf s.h t.zf t.gf s.ws t.ws fa fb hl p.ap.1)
  have HC0 := hide c0
  have HC2 := hide c2
  have HP1 := hide p1
  have HS := hide (And.intro hs ht)
  have HK1 := hide hk1
  have HK2 := hide hk2
  have HKT := hide (KeepT.below hb1)
  clear hb1 hk1 hk2 ka kb kbr hs ht hh hl p p1 hbits
  go_enter Try.func32, Try.ntmps32
  rw [hW1] at c0 c1 c2 c3
  go_wp2_with fail
  rw [← hW1]
  refine C1.out.mono ?_
  rintro e w2 ⟨rfl, g', c', hg', hR, hG⟩
  have HP2 := hide (HP1.out.setW hR hg' hG)
  have ka : SlOk W1 s := HP1.out.a
  have HKT2 := hide (HKT.out.trans (KeepT.grown hG ka.r.zb nkRF))
  have C3 := hide (C2.out w2 _ HP2.out rfl rfl rfl rfl)
  have hq1 := HK1.out.grown hG (snn (blk_ne HK1.out ka.r.zb (by decide)))
  have hq2 := HK2.out.grown hG (snn (blk_ne HK2.out ka.r.zb (by decide)))
  clear c0 c1 c2 c3 hW1
  have c0 : w2.cell? ⟨w.heap.size, 0, none⟩ = _ := hq1.cell 0
  have c2 : w2.cell? ⟨w.heap.size + 1, 0, none⟩ = _ := hq2.cell 0
  clear hR hG hg' C1 C2 HC0 HC2 hq1 hq2 ka HP1 HK1 HK2 HKT
  go_wp2_with fail
  refine C3.out.mono ?_
  rintro e w3 ⟨rfl, hF3, hG3⟩
  have HP3 := hide (HP2.out.setF (xs := List.zipWith (fun x y => x &&& y) s.ws t.ws) hF3 hG3)
  have HKT3 := hide (HKT2.out.trans (KeepT.grown hG3 (show SlOk w2 _ from HP2.out.a).f.gb nk64))
  clear c0 c2 hF3 hG3 C3 HP2 HKT2
  go_wp2
  go_ret
  refine ⟨rfl, some { s with gr := g', c := c', ws := List.zipWith (fun x y => x &&& y) s.ws t.ws, us := List.zipWith (fun x y => x &&& y) s.us t.us }, ?_, rfl, rfl, HP3.out, HKT3.out⟩
  show List.zipWith (fun x y => x &&& y) s.ws t.ws = List.zipWith (fun x y => x &&& y) s.us t.us
  rw [HS.out.1, HS.out.2]
set_option maxRecDepth 20000 in
set_option maxHeartbeats 4000000 in
theorem with_join_ok (w0 w : World) (s t : Sl) (p : PQ w0 w (some s) (some t)) (hs : s.ws = s.us) (ht : t.ws = t.us) (hh : s.h = t.h) (hl : s.ws.length = t.ws.length) : Calls Try.prog 32 #[.agg #[.pointer (some ⟨s.zf, 0, none⟩), .pointer (some ⟨s.zr, 0, none⟩)], .agg #[.pointer (some ⟨t.zf, 0, none⟩), .pointer (some ⟨t.zr, 0, none⟩)], .bool false] w (WithP w0 w (some s) (some t)) := by
  obtain ⟨W1, hW1⟩ : ∃ W1, W1 = (w.alloc (.cells #[.pointer (some ⟨s.zf, 0, none⟩), .pointer (some ⟨s.zr, 0, none⟩)] 30)).alloc (.cells #[.pointer (some ⟨t.zf, 0, none⟩), .pointer (some ⟨t.zr, 0, none⟩)] 30) := ⟨_, rfl⟩
  have hb1 : Below w.heap.size w W1 := by rw [hW1]; exact ((Below.refl _ _).alloc (Nat.le_refl _) _).alloc (by simp) _
  have hk1 : Blk W1 w.heap.size #[.pointer (some ⟨s.zf, 0, none⟩), .pointer (some ⟨s.zr, 0, none⟩)] 30 := by rw [hW1]; exact (Blk.made w _ _).alloc _
  have hk2 : Blk W1 (w.heap.size + 1) #[.pointer (some ⟨t.zf, 0, none⟩), .pointer (some ⟨t.zr, 0, none⟩)] 30 := by
    have := Blk.made (w.alloc (.cells #[.pointer (some ⟨s.zf, 0, none⟩), .pointer (some ⟨s.zr, 0, none⟩)] 30)) #[.pointer (some ⟨t.zf, 0, none⟩), .pointer (some ⟨t.zr, 0, none⟩)] 30
    rw [World.size_alloc] at this
    rw [hW1]
    exact this
  have c0 : W1.cell? ⟨w.heap.size, 0, none⟩ = _ := hk1.cell 0
  have c1 : W1.cell? ⟨w.heap.size, 1, none⟩ = _ := hk1.cell 1
  have c2 : W1.cell? ⟨w.heap.size + 1, 0, none⟩ = _ := hk2.cell 0
  have c3 : W1.cell? ⟨w.heap.size + 1, 1, none⟩ = _ := hk2.cell 1
  have HB1 := hide hb1
  have n1 := neNilR
  have n2 := neSomeR
  have p1 := p.below hb1
  have ka : SlOk W1 s := p1.a
  have kb : SlOk W1 t := p1.b
  have kbr := kb.r
  rw [← hh] at kbr
  have C1 := hide (rwith_any W1 s.zr s.gr s.c s.h t.zr t.gr t.c (bitsL s.us) (bitsL t.us) false ka.r kbr (by rw [bitsL_len, bitsL_len, ← hs, ← ht, hl]))
  have hbits : withL false (bitsL s.us) (bitsL t.us) = bitsL (List.zipWith (fun x y => x ||| y) s.us t.us) := (bitsL_or s.us t.us (by rw [← hs, ← ht]; exact hl)).symm
  rw [hbits] at C1
  have C2 : Hid (∀ (W : World) (s2 : Sl), PQ w0 W (some s2) (some t) → s2.zf = s.zf → s2.gf = s.gf → s2.h = s.h → s2.ws = s.ws → Calls Try.prog 25 #[.pointer (some ⟨s.zf, 0, none⟩), .pointer (some ⟨t.zf, 0, none⟩)] W (WithC W s.zf s.gf s.h (List.zipWith (fun x y => x ||| y) s.ws t.ws))) := hide (fun W s2 q e1 e2 e3 e4 => by
    have qa : SlOk W s2 := q.a
    have qb : SlOk W t := q.b
    have fa := qa.f
    have fb := qb.f
    rw [e1, e2, e3, e4] at fa
    rw [← hh] at fb
    exact join_any W s.zf s.gf s.h t.zf t.gf s.ws t.ws fa fb hl p.ap.1)
  have HC0 := hide c0
  have HC2 := hide c2
  have HP1 := hide p1
  have HS := hide (And.intro hs ht)
  have HK1 := hide hk1
  have HK2 := hide hk2
  have HKT := hide (KeepT.below hb1)
  clear hb1 hk1 hk2 ka kb kbr hs ht hh hl p p1 hbits
  go_enter Try.func32, Try.ntmps32
  rw [hW1] at c0 c1 c2 c3
  go_wp2_with fail
  rw [← hW1]
  refine C1.out.mono ?_
  rintro e w2 ⟨rfl, g', c', hg', hR, hG⟩
  have HP2 := hide (HP1.out.setW hR hg' hG)
  have ka : SlOk W1 s := HP1.out.a
  have HKT2 := hide (HKT.out.trans (KeepT.grown hG ka.r.zb nkRF))
  have C3 := hide (C2.out w2 _ HP2.out rfl rfl rfl rfl)
  have hq1 := HK1.out.grown hG (snn (blk_ne HK1.out ka.r.zb (by decide)))
  have hq2 := HK2.out.grown hG (snn (blk_ne HK2.out ka.r.zb (by decide)))
  clear c0 c1 c2 c3 hW1
  have c0 : w2.cell? ⟨w.heap.size, 0, none⟩ = _ := hq1.cell 0
  have c2 : w2.cell? ⟨w.heap.size + 1, 0, none⟩ = _ := hq2.cell 0
  clear hR hG hg' C1 C2 HC0 HC2 hq1 hq2 ka HP1 HK1 HK2 HKT
  go_wp2_with fail
  refine C3.out.mono ?_
  rintro e w3 ⟨rfl, hF3, hG3⟩
  have HP3 := hide (HP2.out.setF (xs := List.zipWith (fun x y => x ||| y) s.ws t.ws) hF3 hG3)
  have HKT3 := hide (HKT2.out.trans (KeepT.grown hG3 (show SlOk w2 _ from HP2.out.a).f.gb nk64))
  clear c0 c2 hF3 hG3 C3 HP2 HKT2
  go_wp2
  go_ret
  refine ⟨rfl, some { s with gr := g', c := c', ws := List.zipWith (fun x y => x ||| y) s.ws t.ws, us := List.zipWith (fun x y => x ||| y) s.us t.us }, ?_, rfl, rfl, HP3.out, HKT3.out⟩
  show List.zipWith (fun x y => x ||| y) s.ws t.ws = List.zipWith (fun x y => x ||| y) s.us t.us
  rw [HS.out.1, HS.out.2]
theorem blp {w0 w : World} {s t : Option Sl} {e : Ending} {w' : World} (p : PQ w0 w s t) (hs : syO s) (h : BlC w true e w') : WithP w0 w s t e w' := ⟨h.1, s, hs, rfl, rfl, p.below h.2, KeepT.below h.2⟩
theorem with_any (w0 w : World) (s t : Option Sl) (both : Bool) (p : PQ w0 w s t) (hs : syO s) (ht : syO t) : Calls Try.prog 32 #[.agg #[slF s, slR s], .agg #[slF t, slR t], .bool both] w (WithP w0 w s t) := by
  cases s with
  | none =>
    cases both
    · exact (with_join_nil w _ _).mono fun _ _ h => blp p hs h
    · exact (with_meet_nil w _ _).mono fun _ _ h => blp p hs h
  | some s =>
    have ka : SlOk w s := p.a
    cases t with
    | none =>
      cases both
      · exact (with_join_nil2 w s.zf s.gf s.zr s.h s.ws ka.f).mono fun _ _ h => blp p hs h
      · exact (with_meet_nil2 w s.zf s.gf s.zr s.h s.ws ka.f).mono fun _ _ h => blp p hs h
    | some t =>
      have kb : SlOk w t := p.b
      by_cases hno : s.h = t.h ∧ s.ws.length = t.ws.length
      · cases both
        · exact with_join_ok w0 w s t p hs ht hno.1 hno.2
        · exact with_meet_ok w0 w s t p hs ht hno.1 hno.2
      · cases both
        · exact (with_join_no w s t ka kb hs ht hno).mono fun _ _ h => blp p hs h
        · exact (with_meet_no w s t ka kb hs ht hno).mono fun _ _ h => blp p hs h
end Go.Proofs.Ytbemmhngadpjcaa
