/- A marker's list; a nil marker, a zero one. -/
import Derived.Test.YtjdlffmiokobnaaGreatDoorMB
namespace Go.Proofs.YtjdlffmiokobnaaGreatDoor
set_option linter.unusedVariables false
set_option linter.unusedSimpArgs false
namespace MA
set_option maxRecDepth 100000
set_option maxHeartbeats 8000000
open Go.RowKit

theorem isList_yes (w : World) {z g : Nat} (h : RG.RgAt w z g RG.LT 1 []) : Calls Tryz.prog 50 #[.pointer (some ⟨z, 0, none⟩)] w fun e w' => e = .returned (.bool true) ∧ RG.RgS w w' z g RG.LT 1 [] := by
  have HPush : Hid (Calls Tryz.prog 84 #[.pointer (some ⟨z, 0, none⟩), TX.kV TX.kZ] w (RG.PushC w z g RG.LT 1 ([] ++ [RG.greyOf TX.kZ.bs TX.kZ.l32]))) := hide (RG.lpush_any h (by decide) (by decide) TX.kZ.bs TX.kZ.l32)
  have hz0 := RG.zero_el
  clear h
  unfold RG.PushC at HPush
  go_enter Tryz.func50, Tryz.ntmps50
  go_upto_region 2 with (first | ((with_reducible refine TX.wpList_bdK0 ?_ ?_ ?_); rfl; rfl) | (go_at_call 84; (with_reducible refine HPush.out.mono ?_); rintro e w1 ⟨rfl, hs⟩; have HS1 := hide hs; clear hs))
  obtain ⟨⟨g1, h1, hg1⟩, hf1⟩ := HS1.out
  have HPop : Hid (Calls Tryz.prog 85 #[.pointer (some ⟨z, 0, none⟩), .bool false] w1 (RG.PopC w1 z g1 RG.LT 1 (RG.greyOf TX.kZ.bs TX.kZ.l32) [])) := hide (RG.lpop_yes (V := []) (RG.greyOf TX.kZ.bs TX.kZ.l32) false h1 (by decide))
  have HG1 := hide hg1
  have HF1 := hide hf1
  have HE0 : Hid (∀ W : World, RG.BoxEl (W.alloc (.cells (RG.elA RG.elZ) RG.elT)) W.heap.size RG.elZ) := hide (fun W => RG.BoxEl.made W _)
  unfold RG.PopC at HPop
  clear h1 hg1 hf1 HPush HS1
  go_wp2_with (first | (go_at_call 85; (with_reducible refine HPop.out.mono ?_); rintro e w2 ⟨rfl, hs⟩; have HS2 := hide hs; have HE2 := hide (HE0.out w2); clear hs) | ((with_reducible refine RG.wpList_stB ?_ (.tmp 3) (.tmp 11) ?_ w2.heap.size ?_ (RG.greyOf TX.kZ.bs TX.kZ.l32) RG.elZ ?_ HE2.out ?_); rfl; rfl; rfl; rfl; intro w3 h3 hg3))
  go_ret
  refine ⟨rfl, ?_⟩
  obtain ⟨⟨g2, h2, hg2⟩, hf2⟩ := HS2.out
  have s1 := HF1.out.size
  have s2 := hf2.size
  have hb3 : Below w2.heap.size w2 w3 := (TX.below_alloc w2 _).trans (below_grownBy hg3.out (Nat.le_refl _) (by simp))
  refine ⟨⟨g2, h2.below hb3, ?_⟩, (HF1.out.trans hf2 (fun i hi e => ?_)).trans (RG.Frm.of_below (T := fun k => k = z ∨ k = g) hb3) (fun i hi e => e)⟩
  · rcases hg2 with rfl | e
    · rcases HG1.out with e | e
      · exact .inl e
      · exact .inr e
    · exact .inr (by omega)
  · rcases e with e | e
    · exact .inl e
    · rcases HG1.out with q | q
      · exact .inr (by rw [e, q])
      · omega
theorem isList_no (w : World) : Calls Tryz.prog 50 #[.pointer none] w fun e w' => e = .returned (.bool false) ∧ Below w.heap.size w w' := by
  have HPush : Hid (Calls Tryz.prog 84 #[.pointer none, TX.kV TX.kZ] w fun e w' => e = .returned (.tuple #[]) ∧ Below w.heap.size w w') := hide (RG.lpush_nil w TX.kZ.bs)
  have HPop := hide (fun w => RG.lpop_nil w false)
  have hz0 := RG.zero_el
  have HE0 : Hid (∀ W : World, RG.BoxEl (W.alloc (.cells (RG.elA RG.elZ) RG.elT)) W.heap.size RG.elZ) := hide (fun W => RG.BoxEl.made W _)
  unfold RG.AtC at HPop
  go_enter Tryz.func50, Tryz.ntmps50
  go_wp2_with (first | ((with_reducible refine TX.wpList_bdK0 ?_ ?_ ?_); rfl; rfl) | (go_at_call 84; (with_reducible refine HPush.out.mono ?_); rintro e w1 ⟨rfl, hb⟩; have HB1 := hide hb; clear hb) | (go_at_call 85; (with_reducible refine (HPop.out w1).mono ?_); rintro e w2 ⟨rfl, hb⟩; have HB2 := hide hb; have HE2 := hide (HE0.out w2); clear hb) | ((with_reducible refine RG.wpList_stB ?_ (.tmp 3) (.tmp 11) ?_ w2.heap.size ?_ RG.elZ RG.elZ ?_ HE2.out ?_); rfl; rfl; rfl; rfl; intro w3 h3 hg3))
  go_ret
  have hb3 : Below w2.heap.size w2 w3 := (TX.below_alloc w2 _).trans (below_grownBy hg3.out (Nat.le_refl _) (by simp))
  have b1 := HB1.out.size
  have b2 := HB2.out.size
  exact ⟨rfl, (HB1.out.trans (HB2.out.mono b1)).trans (hb3.mono (by omega))⟩
abbrev MT : TypeId := 85
/-- No marker: a nil one, or a zero one. -/
def NoM (w : World) (m : Option Addr) : Prop := m = none ∨ ∃ b cs, m = some ⟨b, 0, none⟩ ∧ Blk w b cs MT ∧ cs[0]? = some .nilFunc
theorem NoM.below {w w' : World} {m : Option Addr} (h : NoM w m) (hb : Below w.heap.size w w') : NoM w' m := by
  rcases h with h | ⟨b, cs, h1, h2, h3⟩
  · exact .inl h
  · exact .inr ⟨b, cs, h1, h2.below hb h2.lt, h3⟩
theorem nilf (w : World) : (binOp .eql 79 .nilFunc .nilFunc).run Tryz.prog w = .ok (.bool true) w := by kernel_rfl
theorem mnone_yes (w : World) {m : Option Addr} (h : NoM w m) : Calls Tryz.prog 40 #[.pointer m] w fun e w' => e = .returned (.bool true) ∧ w' = w := by
  rcases h with rfl | ⟨b, cs, rfl, h2, h3⟩
  · go_enter Tryz.func40, Tryz.ntmps40
    go_wp2
    go_ret
    exact ⟨rfl, rfl⟩
  · have c0 : w.cell? ⟨b, 0, none⟩ = some .nilFunc := by rw [h2.cell, h3]
    have hl := h2.lt
    have hn := nilf w
    clear h2 h3
    go_enter Tryz.func40, Tryz.ntmps40
    go_wp2
    go_ret
    exact ⟨rfl, rfl⟩
theorem piece_no (w : World) {m : Option Addr} (h : NoM w m) (ep : Int) (bot : Bool) : Calls Tryz.prog 15 #[.pointer m, .int .u32 ep, .bool bot] w fun e w' => e = .returned (.tuple #[.bool false, .int .i64 1]) ∧ Below w.heap.size w w' := by
  have HN := hide (mnone_yes w h)
  clear h
  go_enter Tryz.func15, Tryz.ntmps15
  go_wp2_with (go_at_call 40; (with_reducible refine HN.out.mono ?_); rintro e w' ⟨rfl, hw⟩; rw [hw]; clear hw)
  go_ret2
  exact ⟨rfl, Below.refl _ _⟩
theorem kids_no (w : World) {m : Option Addr} (h : NoM w m) (k : TX.KY) : Calls Tryz.prog 22 #[.pointer m, TX.kV k] w fun e w' => e = .returned (.tuple #[.slice none 0 0, .int .i64 1]) ∧ Below w.heap.size w w' := by
  have HN := hide (fun o => mnone_yes (w.alloc o) (h.below (TX.below_alloc w o)))
  clear h
  go_enter Tryz.func22, Tryz.ntmps22
  go_wp2_with (go_at_call 40; refine (HN.out _).mono ?_; rintro e w' ⟨rfl, hw⟩; rw [hw]; clear hw)
  go_ret2
  exact ⟨rfl, TX.below_alloc w _⟩
theorem touch_no (w : World) {m : Option Addr} (h : NoM w m) (k : TX.KY) (ep : Int) : Calls Tryz.prog 14 #[.pointer m, TX.kV k, .int .u32 ep] w fun e w' => e = .returned (.bool false) ∧ Below w.heap.size w w' := by
  have HN := hide (fun o n => mnone_yes ((w.alloc o).drewN n) (h.below (TX.below_dN (TX.below_alloc w o) n)))
  clear h
  go_enter Tryz.func14, Tryz.ntmps14
  go_upto_region 1 with fail
  go_quiet ((go_at_call 40; exact Calls.quiet_of_same (HN.out _ _)))
  go_wp2
  go_ret
  exact ⟨rfl, TX.below_dN (TX.below_alloc w _) _⟩
end MA
end Go.Proofs.YtjdlffmiokobnaaGreatDoor
