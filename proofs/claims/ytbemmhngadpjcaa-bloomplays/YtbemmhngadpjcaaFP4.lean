/- The document's share of bits set, and its alarm. -/
import Derived.Test.YtbemmhngadpjcaaFP3
namespace Go.Proofs.Ytbemmhngadpjcaa
set_option linter.unusedVariables false
set_option linter.unusedSimpArgs false
open Go.RowKit Go.Sort Ieee

theorem RF.below {w w' : World} {z g c h : Nat} {bs : List Bool} (f : RF w z g c h bs) (hb : Below w.heap.size w w') : RF w' z g c h bs :=
  ⟨f.zb.below hb f.zb.lt, fun i hi => (hb.cell (World.block_lt_of_cell? w _ (f.at' i hi))).trans (f.at' i hi), f.hn, f.hh⟩
set_option maxRecDepth 20000 in
set_option maxHeartbeats 4000000 in
theorem rfill_any (w : World) (z g c h : Nat) (bs : List Bool) (f : RF w z g c h bs) : Calls Try.prog 37 #[.pointer (some ⟨z, 0, none⟩)] w (FlC w (fillF (cntT bs) bs.length)) := by
  have hbd : Below w.heap.size w w.drew := below_drewN' (Below.refl _ _) 1
  have HBd := hide hbd
  have CO := hide (rones_any w.drew z g c h bs (f.below hbd))
  obtain ⟨hn1, hn2⟩ := f.hn
  have o1 := (fill_ok (cntT bs) bs.length (by omega) (by omega) (cntT_le bs)).1
  have g1 := fdiv o1
  rw [← flI (cntT bs), ← flI bs.length] at g1
  have c0 : w.cell? ⟨z, 0, none⟩ = some (.slice (some ⟨g, 0, none⟩) bs.length c) := f.zb.cell 0
  obtain ⟨R, hR⟩ : ∃ R, R = fillF (cntT bs) bs.length := ⟨_, rfl⟩
  obtain ⟨B, hB⟩ : ∃ B, B = bs.length := ⟨_, rfl⟩
  obtain ⟨S, hS⟩ : ∃ S, S = cntT bs := ⟨_, rfl⟩
  rw [← hR] at g1 ⊢
  rw [← hB, ← hS] at g1
  rw [← hB] at c0 hn1 hn2
  rw [← hS] at CO
  clear f hR hB hS o1 hbd
  go_enter Try.func37, Try.ntmps37
  go_wp2
  go_region_with (go_at_call 35; refine CO.out.mono ?_; rintro e w1 ⟨rfl, hw1⟩; subst hw1)
  all_goals
    go_wp2_with (first | simp only [g1])
    go_ret
    exact ⟨rfl, HBd.out⟩
set_option maxRecDepth 20000 in
set_option maxHeartbeats 4000000 in
theorem ralarm_any (w : World) (z g c h : Nat) (bs : List Bool) (f : RF w z g c h bs) : Calls Try.prog 38 #[.pointer (some ⟨z, 0, none⟩)] w (FlC w (powF ONE (fillF (cntT bs) bs.length) h)) := by
  have hF := hide f
  have hbd : Below w.heap.size w w.drew := below_drewN' (Below.refl _ _) 1
  have CD : Hid (Calls Try.prog 37 #[.pointer (some ⟨z, 0, none⟩)] w.drew fun e w' => e = .returned (.float .f64 (fillF (cntT bs) bs.length)) ∧ Below w.heap.size w w') := hide (by
    refine (rfill_any w.drew z g c h bs (f.below hbd)).mono ?_
    rintro e w' ⟨he, hb⟩
    exact ⟨he, hbd.trans (hb.mono hbd.size)⟩)
  have HB : Hid (∀ w1 w2 : World, Below w.heap.size w w1 → Below w1.heap.size w1 w2 → Below w.heap.size w w2) := hide (fun w1 w2 h1 h2 => h1.trans (h2.mono h1.size))
  have hfi := (fill_ok (cntT bs) bs.length (by have := f.hn; omega) (by have := f.hn; omega) (cntT_le bs)).2
  have CP := hide (fun W => rpow_any (fillF (cntT bs) bs.length) h hfi (by have := f.hh; omega) W)
  obtain ⟨R, hR⟩ : ∃ R, R = powF ONE (fillF (cntT bs) bs.length) h := ⟨_, rfl⟩
  rw [← hR] at CP ⊢
  obtain ⟨x, hx⟩ : ∃ x, x = fillF (cntT bs) bs.length := ⟨_, rfl⟩
  rw [← hx] at CP CD
  have c00 : w.cell? ⟨z, 1, none⟩ = some (.int .i64 h) := f.zb.cell 1
  clear f hR hx hfi hbd
  go_enter Try.func38, Try.ntmps38
  go_wp2
  go_region_with (first | (go_at_call 37; refine CD.out.mono ?_; rintro e w1 ⟨rfl, hb1⟩; have c0 : w1.cell? ⟨z, 1, none⟩ = some (.int .i64 h) := (hF.out.below hb1).zb.cell 1) | (go_at_call 39; refine (CP.out _).mono ?_; rintro e w2 ⟨rfl, hb2⟩))
  all_goals
    go_wp2
    go_ret
    exact ⟨rfl, HB.out _ _ hb1 hb2⟩
end Go.Proofs.Ytbemmhngadpjcaa
