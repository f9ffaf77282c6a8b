/- BloomPlays: what a pair tells. -/
import Derived.Test.YtbemmhngadpjcaaFQ1
namespace Go.Proofs.Ytbemmhngadpjcaa
set_option linter.unusedVariables false
set_option linter.unusedSimpArgs false
open Go.RowKit Go.Sort Ieee

set_option maxRecDepth 20000 in
set_option maxHeartbeats 4000000 in
theorem same_any (w : World) (x : Nat) : Calls Try.prog 36 #[.float .f64 x, .float .f64 x] w (fun e w' => e = .returned (.bool true) ∧ w' = w) := by
  obtain ⟨o, ho⟩ : ∃ o, FloatKind.f64.format.order x x = o := ⟨_, rfl⟩
  rcases o with _ | _ | _ | _
  all_goals
    go_enter Try.func36, Try.ntmps36
    go_wp2
    go_ret
    exact ⟨rfl, rfl⟩
theorem nan_order' : FloatKind.f64.format.order NAN NAN = none := by decide
set_option maxRecDepth 20000 in
set_option maxHeartbeats 4000000 in
theorem told_nil (w : World) : Calls Try.prog 12 #[.agg #[.pointer none, .pointer none]] w (BlC w true) := by
  have hb := (Below.refl w.heap.size w).alloc (Nat.le_refl _) (.cells #[.pointer none, .pointer none] 30)
  obtain ⟨W1, hW1⟩ : ∃ W1, W1 = w.alloc (.cells #[.pointer none, .pointer none] 30) := ⟨_, rfl⟩
  have hk : Blk W1 w.heap.size #[.pointer none, .pointer none] 30 := by rw [hW1]; exact Blk.made w _ _
  rw [← hW1] at hb
  have HB := hide hb
  have HK := hide hk
  have C := hide (shape_nil W1)
  have c0 : W1.cell? ⟨w.heap.size, 0, none⟩ = some (.pointer none) := hk.cell 0
  have c1 : W1.cell? ⟨w.heap.size, 1, none⟩ = some (.pointer none) := hk.cell 1
  clear hb hk
  go_enter Try.func12, Try.ntmps12
  go_wp2_with fail
  rw [← hW1]
  refine C.out.mono ?_
  rintro e w2 ⟨rfl, hw2⟩
  subst hw2
  have hnn := nan_order'
  clear hW1 C
  go_wp2
  refine wp_region_quiet_below (by kernel_rfl) (by kernel_rfl) ?_
  have d0 := fun d os => cell_regrown c0 d os
  repeat quiet_step (fail)
  quiet_step (exact Calls.regrown_of ((ones_nil _).mono fun _ _ h => ⟨h.1, by rw [h.2]; exact Below.refl _ _⟩))
  repeat quiet_step (fail)
  quiet_step (exact Calls.regrown_of (fill_nil _))
  repeat quiet_step (fail)
  quiet_step (exact Calls.regrown_of (fill_nil _))
  repeat quiet_step (fail)
  quiet_step (exact Calls.regrown_of (alarm_nil _))
  repeat quiet_step (fail)
  quiet_step (exact Calls.regrown_of (alarm_nil _))
  repeat quiet_step (fail)
  quiet_step (exact Calls.regrown_of ((bytes_nil _).mono fun _ _ h => ⟨h.1, by rw [h.2]; exact Below.refl _ _⟩))
  repeat quiet_step (fail)
  refine wpQuiet_nil ?_
  intro w5 hw'
  obtain ⟨⟨dq, osq⟩, hw''⟩ := hw'
  have hb := below_regrown w2 dq osq
  rw [← show w5 = grow (redrawn w2 dq) osq from hw''] at hb
  have HB5 := hide (HB.out.trans (hb.mono HB.out.size))
  clear hw'' hb
  go_wp2
  go_ret
  exact ⟨rfl, HB5.out⟩
set_option maxRecDepth 20000 in
set_option maxHeartbeats 8000000 in
theorem told_some (w : World) (z g z2 g2 c h : Nat) (ws : List Nat) (f : FilAt w z g h ws) (r : RB w z2 g2 c h (bitsL ws)) : Calls Try.prog 12 #[.agg #[.pointer (some ⟨z, 0, none⟩), .pointer (some ⟨z2, 0, none⟩)]] w (BlC w true) := by
  obtain ⟨P, hP⟩ : ∃ P : Array Value, P = #[.pointer (some ⟨z, 0, none⟩), .pointer (some ⟨z2, 0, none⟩)] := ⟨_, rfl⟩
  obtain ⟨W1, hW1⟩ : ∃ W1, W1 = w.alloc (.cells #[.pointer (some ⟨z, 0, none⟩), .pointer (some ⟨z2, 0, none⟩)] 30) := ⟨_, rfl⟩
  have hb : Below w.heap.size w W1 := by rw [hW1]; exact (Below.refl _ _).alloc (Nat.le_refl _) _
  have hk : Blk W1 w.heap.size #[.pointer (some ⟨z, 0, none⟩), .pointer (some ⟨z2, 0, none⟩)] 30 := by rw [hW1]; exact Blk.made w _ _
  have HF := hide (f.below hb)
  have HR := hide (r.below hb)
  have HB := hide hb
  have HK := hide hk
  have C := hide (shape_any W1 z g h ws HF.out)
  have hlen := bitsL_len ws
  obtain ⟨T, hT⟩ : ∃ T, T = 64 * ws.length := ⟨_, rfl⟩
  have hn := r.hn
  rw [hlen, ← hT] at hn
  rw [← hT] at C hlen
  obtain ⟨S, hS⟩ : ∃ S, S = popS ws := ⟨_, rfl⟩
  have hc := cnt_bits ws
  rw [← hS] at hc
  obtain ⟨fi, hfi⟩ : ∃ x, x = fillF S T := ⟨_, rfl⟩
  obtain ⟨al, hal⟩ : ∃ x, x = powF ONE fi h := ⟨_, rfl⟩
  have K1 : Hid (∀ W, Below W1.heap.size W1 W → Calls Try.prog 22 #[.pointer (some ⟨z, 0, none⟩)] W (fun e w' => e = .returned (.int .i64 (S : Nat)) ∧ Below W.heap.size W w')) := hide (fun W hW => by
    rw [hS]; exact (ones_any W z g h ws (HF.out.below hW)).mono fun _ _ h => ⟨h.1, by rw [h.2]; exact Below.refl _ _⟩)
  have K2 : Hid (∀ W, Below W1.heap.size W1 W → Calls Try.prog 35 #[.pointer (some ⟨z2, 0, none⟩)] W (fun e w' => e = .returned (.int .i64 (S : Nat)) ∧ Below W.heap.size W w')) := hide (fun W hW => by
    rw [← hc]; exact (rones_any W z2 g2 c h (bitsL ws) (HR.out.below hW).rf).mono fun _ _ h => ⟨h.1, by rw [h.2]; exact Below.refl _ _⟩)
  have K3 : Hid (∀ W, Below W1.heap.size W1 W → Calls Try.prog 28 #[.pointer (some ⟨z, 0, none⟩)] W (FlC W fi)) := hide (fun W hW => by
    rw [hfi, hS, hT]; exact fill_any W z g h ws (HF.out.below hW))
  have K4 : Hid (∀ W, Below W1.heap.size W1 W → Calls Try.prog 37 #[.pointer (some ⟨z2, 0, none⟩)] W (FlC W fi)) := hide (fun W hW => by
    have := rfill_any W z2 g2 c h (bitsL ws) (HR.out.below hW).rf
    rw [hc, hlen, ← hfi] at this
    exact this)
  have K5 : Hid (∀ W, Below W1.heap.size W1 W → Calls Try.prog 27 #[.pointer (some ⟨z, 0, none⟩)] W (FlC W al)) := hide (fun W hW => by
    rw [hal, hfi, hS, hT]; exact alarm_any W z g h ws (HF.out.below hW))
  have K6 : Hid (∀ W, Below W1.heap.size W1 W → Calls Try.prog 38 #[.pointer (some ⟨z2, 0, none⟩)] W (FlC W al)) := hide (fun W hW => by
    have := ralarm_any W z2 g2 c h (bitsL ws) (HR.out.below hW).rf
    rw [hc, hlen, ← hfi, ← hal] at this
    exact this)
  have K7 : Hid (∀ W x, Calls Try.prog 36 #[.float .f64 x, .float .f64 x] W (fun e w' => e = .returned (.bool true) ∧ Below W.heap.size W w')) := hide (fun W x => (same_any W x).mono fun _ _ h => ⟨h.1, by rw [h.2]; exact Below.refl _ _⟩)
  have e0 : W1.cell? ⟨z2, 0, none⟩ = some (.slice (some ⟨g2, 0, none⟩) T c) := by rw [← hlen]; exact HR.out.zb.cell 0
  have e1 : W1.cell? ⟨z2, 1, none⟩ = some (.int .i64 h) := HR.out.zb.cell 1
  have c0 : W1.cell? ⟨w.heap.size, 0, none⟩ = some (.pointer (some ⟨z, 0, none⟩)) := hk.cell 0
  have c1 : W1.cell? ⟨w.heap.size, 1, none⟩ = some (.pointer (some ⟨z2, 0, none⟩)) := hk.cell 1
  clear f r hb hk HF HR hlen hT hS hc hfi hal hP HK
  go_enter Try.func12, Try.ntmps12
  go_wp2_with fail
  rw [← hW1]
  refine C.out.mono ?_
  rintro e w2 ⟨rfl, nd, hw2⟩
  have hb12 : Below W1.heap.size W1 w2 := by rw [hw2]; exact below_drewN' (Below.refl _ _) nd
  have HB12 := hide hb12
  replace e0 := (hb12.cell (World.block_lt_of_cell? _ _ e0)).trans e0
  replace e1 := (hb12.cell (World.block_lt_of_cell? _ _ e1)).trans e1
  replace c0 := (hb12.cell (World.block_lt_of_cell? _ _ c0)).trans c0
  replace c1 := (hb12.cell (World.block_lt_of_cell? _ _ c1)).trans c1
  have HU : Hid (∀ d os, Below W1.heap.size W1 (grow (redrawn w2 d) os)) := hide (fun d os => hb12.trans ((below_regrown w2 d os).mono hb12.size))
  clear hW1 C hw2 hb12
  go_wp2
  refine wp_region_quiet_below (by kernel_rfl) (by kernel_rfl) ?_
  have d0 := fun d os => cell_regrown c0 d os
  have d1 := fun d os => cell_regrown c1 d os
  have d2 := fun d os => cell_regrown e0 d os
  have d3 := fun d os => cell_regrown e1 d os
  repeat quiet_step (fail)
  quiet_step (exact Calls.regrown_of (K1.out _ (HU.out _ _)))
  repeat quiet_step (fail)
  quiet_step (exact Calls.regrown_of (K2.out _ (HU.out _ _)))
  repeat quiet_step (fail)
  quiet_step (exact Calls.regrown_of (K3.out _ (HU.out _ _)))
  repeat quiet_step (fail)
  quiet_step (exact Calls.regrown_of (K4.out _ (HU.out _ _)))
  repeat quiet_step (fail)
  quiet_step (exact Calls.regrown_of (K7.out _ fi))
  repeat quiet_step (fail)
  quiet_step (exact Calls.regrown_of (K5.out _ (HU.out _ _)))
  repeat quiet_step (fail)
  quiet_step (exact Calls.regrown_of (K6.out _ (HU.out _ _)))
  repeat quiet_step (fail)
  quiet_step (exact Calls.regrown_of (K7.out _ al))
  repeat quiet_step (fail)
  refine wpQuiet_nil ?_
  intro w5 hw'
  obtain ⟨⟨dq, osq⟩, hw''⟩ := hw'
  have hb := below_regrown w2 dq osq
  rw [← show w5 = grow (redrawn w2 dq) osq from hw''] at hb
  have HB5 := hide (HB.out.trans ((HB12.out.trans (hb.mono HB12.out.size)).mono HB.out.size))
  clear hw'' hb d0 d1 d2 d3 c0 c1 e0 e1 HU
  go_wp2
  go_ret
  exact ⟨rfl, HB5.out⟩
theorem told_any (w : World) (s : Option Sl) (k : okO w s) (hs : syO s) : Calls Try.prog 12 #[.agg #[slF s, slR s]] w (BlC w true) := by
  cases s with
  | none => exact told_nil w
  | some s =>
    have hs' : s.ws = s.us := hs
    have k' : SlOk w s := k
    have kr := k'.r
    rw [← hs'] at kr
    exact told_some w s.zf s.gf s.zr s.gr s.c s.h s.ws k'.f kr
end Go.Proofs.Ytbemmhngadpjcaa
