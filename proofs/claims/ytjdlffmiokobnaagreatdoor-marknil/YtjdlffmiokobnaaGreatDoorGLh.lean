/- A work list: All, Pop, Bump; a nil one. -/
import Derived.Test.YtjdlffmiokobnaaGreatDoorGLg
import Derived.Test.YtjdlffmiokobnaaGreatDoorGR8g
namespace Go.Proofs.YtjdlffmiokobnaaGreatDoor
set_option linter.unusedVariables false
set_option linter.unusedSimpArgs false
namespace RG
open Go.RowKit
set_option maxRecDepth 100000

theorem run_zeroB {op : Oper} {a : Act} (ho : op.op = .build elT #[]) (w : World) : (execOp a.eval op).run Tryz.prog w = .ok (.value (elV elZ)) w := by
  simp only [execOp, ho]
  kernel_rfl
theorem wpList_valG {ops : Array Oper} {rest : List Oper} {op : Oper} {a : Act} {w : World} {Q : Exit → Act → World → Prop} (v : Value) (hg : Region.wanted op (yielded ops a.tmps) = true) (hr : (execOp a.eval op).run Tryz.prog w = .ok (.value v) w) (h : wpList Tryz.prog ops Q rest (a.put op.dst v) w) : wpList Tryz.prog ops Q (op :: rest) a w := by
  unfold wpList
  rw [if_pos hg]
  refine .inl ?_
  unfold Oper.wp
  rw [hr]
  exact h
theorem wpList_zeroB {ops : Array Oper} {rest : List Oper} {op : Oper} {a : Act} {w : World} {Q : Exit → Act → World → Prop} (ho : op.op = .build elT #[]) (hg : Region.wanted op (yielded ops a.tmps) = true) (h : wpList Tryz.prog ops Q rest (a.put op.dst (elV elZ)) w) : wpList Tryz.prog ops Q (op :: rest) a w :=
  wpList_valG _ hg (run_zeroB ho w) h
/-- What All leaves. -/
def AllC (w : World) (V : List EL) (e : Ending) (w' : World) : Prop := ∃ d, e = .returned (.slice (some ⟨d, 0, none⟩) V.length V.length) ∧ RowEl w' d V ∧ w.heap.size ≤ d ∧ Below w.heap.size w w'
/-- A kid more. -/
def bumpE (x : EL) : EL := ⟨x.key, if x.nxt < 9223372036854775807 then x.nxt + 1 else x.nxt, x.k32⟩
theorem BoxEl.nxt {w : World} {k : Nat} {x : EL} (h : BoxEl w k x) : w.cell? ⟨k, 32, none⟩ = some (.int .i64 x.nxt) := by
  have hb : Blk w k (elA x) elT := h
  rw [hb.cell, ← Array.getElem?_toList]
  unfold elA elC
  rw [List.toList_toArray, List.getElem?_append_right (by simp [x.k32])]
  simp [x.k32]
theorem BoxEl.bump {w : World} {k : Nat} {x : EL} (h : BoxEl w k x) (hx : x.nxt < 9223372036854775807) : BoxEl (w.setCell ⟨k, 32, none⟩ (.int .i64 (x.nxt + 1))) k (bumpE x) := by
  have hb : Blk w k (elA x) elT := h
  have h2 := hb.set 32 (.int .i64 (x.nxt + 1))
  have e : (elA x).setIfInBounds 32 (.int .i64 (x.nxt + 1)) = elA (bumpE x) := by
    unfold elA elC bumpE
    rw [if_pos hx]
    apply Array.toList_inj.1
    rw [Array.toList_setIfInBounds, List.toList_toArray, List.set_append_right _ _ (by simp [x.k32])]
    simp [x.k32]
  rw [e] at h2
  exact h2
theorem bumpE_max {x : EL} (hx : ¬ x.nxt < 9223372036854775807) : bumpE x = x := by
  unfold bumpE
  rw [if_neg hx]
section
variable {w : World} {z g : Nat} {M : Nat} {V : List EL}
theorem values_any (h : RgAt w z g LT M V) (hB : EB * (2 * M + 1) ≤ 281474976710656) : Calls Tryz.prog 77 #[.pointer (some ⟨z, 0, none⟩)] w (AllC w V) := by
  obtain ⟨S, b, hz, hg, hR, hS⟩ := h.ex
  obtain ⟨n, hn⟩ : ∃ n, n = V.length := ⟨_, rfl⟩
  obtain ⟨d0, d1, d2, d3⟩ := cells3 hz
  rw [← hn] at d2
  have hzl := hz.lt
  have hlen := hR.len
  have hmk := fun W => run_mk n (Nat.le_trans (Nat.mul_le_mul_left EB (by omega)) hB) W
  have hn48 : n ≤ 281474976710656 := by simp only [EB] at hB; omega
  obtain ⟨W, hW⟩ : ∃ W, W = w.alloc (.cells (rowC (List.replicate n elZ)).toArray elT) := ⟨_, rfl⟩
  have hb : Below w.heap.size w W := by rw [hW]; exact below_alloc w _
  have hd : RowEl W w.heap.size (List.replicate n elZ) := by rw [hW]; exact Blk.made w _ _
  have hLY := lay_any (h.below hb) w.heap.size n (List.replicate n elZ) hd List.length_replicate hn48 (by omega) (Nat.ne_of_gt h.lt.1) (Nat.ne_of_gt h.lt.2)
  rw [List.drop_of_length_le (by rw [List.length_replicate]; omega), List.append_nil] at hLY
  have HLY := hide hLY
  have HB := hide hb
  have HN := hide hn
  clear h hz hg hR hS hB hlen hb hd hLY hn
  go_enter Tryz.func77, Tryz.ntmps77
  go_upto_region 2 with fail
  rw [← hW]
  obtain ⟨d, hd⟩ : ∃ d, d = w.heap.size := ⟨_, rfl⟩
  rw [← hd] at HLY ⊢
  have HD := hide hd
  clear hW hd hmk
  go_wp2_with (go_at_call 114; (with_reducible refine HLY.out.mono ?_); rintro e w2 ⟨rfl, h1, h2⟩; have H1 := hide h1; have H2 := hide h2; clear h1 h2)
  go_ret
  exact ⟨d, by rw [HN.out]; rfl, H1.out, by rw [HD.out]; exact Nat.le_refl _, HB.out.trans (H2.out.below HB.out.size (fun k e => by rw [e, HD.out]; exact Nat.le_refl _))⟩
theorem lall_any (h : RgAt w z g LT M V) (hB : EB * (2 * M + 1) ≤ 281474976710656) : Calls Tryz.prog 38 #[.pointer (some ⟨z, 0, none⟩)] w (AllC w V) := by
  have HN := hide (lnone_no h)
  have HV := hide (values_any h hB)
  clear h hB
  go_enter Tryz.func38, Tryz.ntmps38
  go_wp2_with (first | (go_at_call 44; (with_reducible refine HN.out.mono ?_); rintro e w' ⟨rfl, hw⟩; rw [hw]; clear hw) | (go_at_call 77; (with_reducible refine HV.out.mono ?_); rintro e w2 ⟨d, rfl, h1, h2, h3⟩; have H1 := hide h1; have H2 := hide h2; have H3 := hide h3; clear h1 h2 h3))
  go_ret
  exact ⟨d, rfl, H1.out, H2.out, H3.out⟩
/-- What pop leaves, with a box beside it. -/
def PopR (w : World) (x : EL) (ok : Bool) (R : World → World → Prop) (e : Ending) (w' : World) : Prop := e = .returned (.tuple #[elV x, .bool ok]) ∧ ∃ W w2, Below w.heap.size w W ∧ w.heap.size < W.heap.size ∧ R W w2 ∧ w2.grownBy w' (some w.heap.size)
theorem lpop_of (bot ok : Bool) (x : EL) (h : RgAt w z g LT M V) (R : World → World → Prop) (hp : ∀ W, Below w.heap.size w W → RgAt W z g LT M V → Calls Tryz.prog 117 #[.pointer (some ⟨z, 0, none⟩), .bool bot] W fun e w' => e = .returned (.tuple #[elV x, .bool ok]) ∧ R W w') (hk : ∀ W w' k, R W w' → BoxEl W k elZ → k ≠ z → k ≠ g → BoxEl w' k elZ) : Calls Tryz.prog 85 #[.pointer (some ⟨z, 0, none⟩), .bool bot] w (PopR w x ok R) := by
  obtain ⟨W0, hW0⟩ : ∃ W, W = w.alloc (.cells (elA elZ) elT) := ⟨_, rfl⟩
  have hb0 : Below w.heap.size w W0 := by rw [hW0]; exact below_alloc w _
  have hk0 : BoxEl W0 w.heap.size elZ := by rw [hW0]; exact BoxEl.made w _
  obtain ⟨k, hkk⟩ : ∃ k, k = w.heap.size := ⟨_, rfl⟩
  have hlt := h.lt
  have HP := hide (hp W0 hb0 (h.below hb0))
  have HN := hide (lnone_no (h.below hb0))
  have HKK2 : Hid (∀ w', R W0 w' → BoxEl w' w.heap.size elZ) := hide (fun w' r => hk W0 w' _ r hk0 (Nat.ne_of_gt hlt.1) (Nat.ne_of_gt hlt.2))
  rw [← hkk] at HKK2
  have HB0 := hide hb0
  have HLT : Hid (w.heap.size < W0.heap.size) := hide (by rw [hW0]; simp)
  have hz0 := zero_el
  clear h hp hk hk0 hb0 hlt
  go_enter Tryz.func85, Tryz.ntmps85
  go_upto_region 1 with fail
  rw [← hW0, ← hkk]
  clear hW0
  have HKK := hide hkk
  clear hkk
  go_wp2_with (first | (go_at_call 44; (with_reducible refine HN.out.mono ?_); rintro e w' ⟨rfl, hw⟩; rw [hw]; clear hw) | (go_at_call 117; (with_reducible refine HP.out.mono ?_); rintro e w2 ⟨rfl, h1⟩; have H1 := hide h1; have HB2 := hide (HKK2.out w2 h1); clear h1) | ((with_reducible refine wpList_stB ?_ (.tmp 4) (.tmp 14) ?_ k ?_ x elZ ?_ HB2.out ?_); rfl; rfl; rfl; rfl; intro w5 hk5 hg5))
  exact ⟨rfl, _, results_cell_tmp (p := 4) (q := 5) (ty := elT) rfl _ _ ⟨k, 0, none⟩ rfl (elV x) (.bool ok) rfl (loadB hk5.out), rfl, W0, w2, HB0.out, HLT.out, H1.out, by rw [← HKK.out]; exact hg5.out⟩
theorem lpop_no (h : RgAt w z g LT M []) (bot : Bool) : Calls Tryz.prog 85 #[.pointer (some ⟨z, 0, none⟩), .bool bot] w (AtC w elZ false) :=
  (lpop_of bot false elZ h (fun W w' => Below W.heap.size W w') (fun W _ hr => pop_no hr bot) (fun W w' k hb hk _ _ => hk.below hb)).mono (fun e w' ⟨h1, W, w2, b1, _, b2, b3⟩ => by
    have s := b1.size
    have hb := b1.trans (b2.mono s)
    exact ⟨h1, hb.trans (below_grownBy b3 (Nat.le_refl _) hb.size)⟩)
theorem lpop_yes (v : EL) (bot : Bool) (h : RgAt w z g LT M (addV bot v V)) (hM : M ≤ 140737488355327) : Calls Tryz.prog 85 #[.pointer (some ⟨z, 0, none⟩), .bool bot] w (PopC w z g LT M v V) := by
  have hp : ∀ W, RgAt W z g LT M (addV bot v V) → Calls Tryz.prog 117 #[.pointer (some ⟨z, 0, none⟩), .bool bot] W (PopC W z g LT M v V) := fun W hr => by
    cases bot
    · exact popT_any v hr hM
    · exact popB_any v hr hM
  have hlt := h.lt
  refine (lpop_of bot true v h (fun W w' => RgS W w' z g LT M V) (fun W _ hr => hp W hr) (fun W w' k hr hk h1 h2 => hr.fr.box hk (fun e => by rcases e with e | e; exact h1 e; exact h2 e))).mono (fun e w' ⟨h1, W, w2, b1, hW, ⟨⟨g', b2, b3⟩, b4⟩, b5⟩ => ?_)
  have s := b1.size
  have s2 := b4.size
  refine ⟨h1, ⟨g', b2.same (b5.block _ b2.lt.1 (fun e => by have := Option.some.inj e; omega)) (b5.block _ b2.lt.2 (fun e => ?_)), b3.imp_right (Nat.le_trans s)⟩, ((Frm.of_below b1).trans b4 (fun i hi e => e)).trans (Frm.of_grown (T := fun k => k = w.heap.size) b5 (.inl rfl)) (fun i hi e => by omega)⟩
  have := Option.some.inj e
  rcases b3 with q | q
  · omega
  · omega
theorem lpush_nil (w : World) (ks : List UInt8) : Calls Tryz.prog 84 #[.pointer none, .agg (kA ks)] w fun e w' => e = .returned (.tuple #[]) ∧ Below w.heap.size w w' := by
  have HN := hide (fun W => lnone_yes W)
  have HB := hide (below_alloc w (.cells (kA ks) 46))
  go_enter Tryz.func84, Tryz.ntmps84
  go_wp2_with (go_at_call 44; (with_reducible refine (HN.out _).mono ?_); rintro e w' ⟨rfl, hw⟩; rw [hw]; clear hw)
  go_returns
  exact ⟨rfl, HB.out⟩
theorem llen_nil (w : World) : Calls Tryz.prog 17 #[.pointer none] w fun e w' => e = .returned (.int .i64 0) ∧ w' = w := by
  have HN := hide (fun W => lnone_yes W)
  go_enter Tryz.func17, Tryz.ntmps17
  go_wp2_with (go_at_call 44; (with_reducible refine (HN.out _).mono ?_); rintro e w' ⟨rfl, hw⟩; rw [hw]; clear hw)
  go_ret
  exact ⟨rfl, rfl⟩
theorem lall_nil (w : World) : Calls Tryz.prog 38 #[.pointer none] w fun e w' => e = .returned (.slice none 0 0) ∧ w' = w := by
  have HN := hide (fun W => lnone_yes W)
  go_enter Tryz.func38, Tryz.ntmps38
  go_wp2_with (go_at_call 44; (with_reducible refine (HN.out _).mono ?_); rintro e w' ⟨rfl, hw⟩; rw [hw]; clear hw)
  go_ret
  exact ⟨rfl, rfl⟩
theorem llook_nil (w : World) (bot : Bool) : Calls Tryz.prog 212 #[.pointer none, .bool bot] w (AtC w elZ false) := by
  obtain ⟨W0, hW0⟩ : ∃ W, W = w.alloc (.cells (elA elZ) elT) := ⟨_, rfl⟩
  have hb0 : Below w.heap.size w W0 := by rw [hW0]; exact below_alloc w _
  have hk0 : BoxEl W0 w.heap.size elZ := by rw [hW0]; exact BoxEl.made w _
  have HN := hide (fun W => lnone_yes W)
  obtain ⟨k, hkk⟩ : ∃ k, k = w.heap.size := ⟨_, rfl⟩
  rw [← hkk] at hk0
  have HK := hide hk0
  have HB0 := hide hb0
  have hz0 := zero_el
  clear hk0 hb0
  go_enter Tryz.func212, Tryz.ntmps212
  go_upto_region 1 with fail
  rw [← hW0, ← hkk]
  have HKK := hide hkk
  clear hW0 hkk
  go_wp2_with (first | (go_at_call 44; (with_reducible refine (HN.out _).mono ?_); rintro e w' ⟨rfl, hw⟩; rw [hw]; clear hw) | ((with_reducible refine wpList_zeroB ?_ ?_ ?_); rfl; rfl) | ((with_reducible refine wpList_stB ?_ (.tmp 4) (.tmp 8) ?_ k ?_ elZ elZ ?_ HK.out ?_); rfl; rfl; rfl; rfl; intro w5 hk5 hg5))
  refine ⟨rfl, _, results_cell_tmp (p := 4) (q := 5) (ty := elT) rfl _ _ ⟨k, 0, none⟩ rfl (elV elZ) (.bool false) rfl (loadB hk5.out), rfl, ?_⟩
  have hb := HB0.out
  exact hb.trans (below_grownBy hg5.out (by rw [HKK.out]; exact Nat.le_refl _) hb.size)
theorem lbottom_nil (w : World) : Calls Tryz.prog 209 #[.pointer none] w (AtC w elZ false) := by
  obtain ⟨W0, hW0⟩ : ∃ W, W = w.alloc (.cells (elA elZ) elT) := ⟨_, rfl⟩
  have hb0 : Below w.heap.size w W0 := by rw [hW0]; exact below_alloc w _
  have hk0 : BoxEl W0 w.heap.size elZ := by rw [hW0]; exact BoxEl.made w _
  have HN := hide (fun W => lnone_yes W)
  have HC := hide (llook_nil W0 true)
  obtain ⟨k, hkk⟩ : ∃ k, k = w.heap.size := ⟨_, rfl⟩
  rw [← hkk] at hk0
  have HK := hide hk0
  have HB0 := hide hb0
  have hz0 := zero_el
  clear hk0 hb0
  go_enter Tryz.func209, Tryz.ntmps209
  go_upto_region 1 with fail
  rw [← hW0, ← hkk]
  have HKK := hide hkk
  clear hW0 hkk
  go_wp2_with (first | (go_at_call 44; (with_reducible refine (HN.out _).mono ?_); rintro e w' ⟨rfl, hw⟩; rw [hw]; clear hw) | (go_at_call 212; (with_reducible refine HC.out.mono ?_); rintro e w2 ⟨rfl, h1⟩; have HB2 := hide h1; have HK2 := hide (HK.out.below h1); clear h1) | ((with_reducible refine wpList_zeroB ?_ ?_ ?_); rfl; rfl) | ((with_reducible refine wpList_stB ?_ (.tmp 2) (.tmp 6) ?_ k ?_ elZ elZ ?_ HK2.out ?_); rfl; rfl; rfl; rfl; intro w5 hk5 hg5))
  refine ⟨rfl, _, results_cell_tmp (p := 2) (q := 3) (ty := elT) rfl _ _ ⟨k, 0, none⟩ rfl (elV elZ) (.bool false) rfl (loadB hk5.out), rfl, ?_⟩
  have hb := HB0.out.trans (HB2.out.mono HB0.out.size)
  exact hb.trans (below_grownBy hg5.out (by rw [HKK.out]; exact Nat.le_refl _) hb.size)
theorem ltop_nil (w : World) : Calls Tryz.prog 211 #[.pointer none] w (AtC w elZ false) := by
  obtain ⟨W0, hW0⟩ : ∃ W, W = w.alloc (.cells (elA elZ) elT) := ⟨_, rfl⟩
  have hb0 : Below w.heap.size w W0 := by rw [hW0]; exact below_alloc w _
  have hk0 : BoxEl W0 w.heap.size elZ := by rw [hW0]; exact BoxEl.made w _
  have HN := hide (fun W => lnone_yes W)
  have HC := hide (llook_nil W0 false)
  obtain ⟨k, hkk⟩ : ∃ k, k = w.heap.size := ⟨_, rfl⟩
  rw [← hkk] at hk0
  have HK := hide hk0
  have HB0 := hide hb0
  have hz0 := zero_el
  clear hk0 hb0
  go_enter Tryz.func211, Tryz.ntmps211
  go_upto_region 1 with fail
  rw [← hW0, ← hkk]
  have HKK := hide hkk
  clear hW0 hkk
  go_wp2_with (first | (go_at_call 44; (with_reducible refine (HN.out _).mono ?_); rintro e w' ⟨rfl, hw⟩; rw [hw]; clear hw) | (go_at_call 212; (with_reducible refine HC.out.mono ?_); rintro e w2 ⟨rfl, h1⟩; have HB2 := hide h1; have HK2 := hide (HK.out.below h1); clear h1) | ((with_reducible refine wpList_zeroB ?_ ?_ ?_); rfl; rfl) | ((with_reducible refine wpList_stB ?_ (.tmp 2) (.tmp 6) ?_ k ?_ elZ elZ ?_ HK2.out ?_); rfl; rfl; rfl; rfl; intro w5 hk5 hg5))
  refine ⟨rfl, _, results_cell_tmp (p := 2) (q := 3) (ty := elT) rfl _ _ ⟨k, 0, none⟩ rfl (elV elZ) (.bool false) rfl (loadB hk5.out), rfl, ?_⟩
  have hb := HB0.out.trans (HB2.out.mono HB0.out.size)
  exact hb.trans (below_grownBy hg5.out (by rw [HKK.out]; exact Nat.le_refl _) hb.size)
theorem lpop_nil (w : World) (bot : Bool) : Calls Tryz.prog 85 #[.pointer none, .bool bot] w (AtC w elZ false) := by
  obtain ⟨W0, hW0⟩ : ∃ W, W = w.alloc (.cells (elA elZ) elT) := ⟨_, rfl⟩
  have hb0 : Below w.heap.size w W0 := by rw [hW0]; exact below_alloc w _
  have hk0 : BoxEl W0 w.heap.size elZ := by rw [hW0]; exact BoxEl.made w _
  have HN := hide (fun W => lnone_yes W)
  obtain ⟨k, hkk⟩ : ∃ k, k = w.heap.size := ⟨_, rfl⟩
  rw [← hkk] at hk0
  have HK := hide hk0
  have HB0 := hide hb0
  have hz0 := zero_el
  clear hk0 hb0
  go_enter Tryz.func85, Tryz.ntmps85
  go_upto_region 1 with fail
  rw [← hW0, ← hkk]
  have HKK := hide hkk
  clear hW0 hkk
  go_wp2_with (first | (go_at_call 44; (with_reducible refine (HN.out _).mono ?_); rintro e w' ⟨rfl, hw⟩; rw [hw]; clear hw) | ((with_reducible refine wpList_zeroB ?_ ?_ ?_); rfl; rfl) | ((with_reducible refine wpList_stB ?_ (.tmp 4) (.tmp 8) ?_ k ?_ elZ elZ ?_ HK.out ?_); rfl; rfl; rfl; rfl; intro w5 hk5 hg5))
  refine ⟨rfl, _, results_cell_tmp (p := 4) (q := 5) (ty := elT) rfl _ _ ⟨k, 0, none⟩ rfl (elV elZ) (.bool false) rfl (loadB hk5.out), rfl, ?_⟩
  have hb := HB0.out
  exact hb.trans (below_grownBy hg5.out (by rw [HKK.out]; exact Nat.le_refl _) hb.size)
end
end RG
end Go.Proofs.YtjdlffmiokobnaaGreatDoor
