/- A work list: Bump. -/
import Derived.Test.YtiogblfdchdioaaGLh
namespace Go.Proofs.Ytiogblfdchdioaa
set_option linter.unusedVariables false
set_option linter.unusedSimpArgs false
namespace RG
open Go.RowKit
set_option maxRecDepth 100000

/-- The place of an end. -/
def endI (bot : Bool) (V : List EL) : Nat := if bot then 0 else V.length - 1
theorem endV_at (bot : Bool) (V : List EL) : endV bot V = V[endI bot V]? := by
  cases bot
  · exact List.getLast?_eq_getElem?
  · exact List.head?_eq_getElem?
section
variable {w : World} {z g : Nat} {M : Nat} {V : List EL}
theorem lbump_no (h : RgAt w z g LT M V) (hM : M ≤ 140737488355327) (bot : Bool) (hV : endV bot V = none) : Calls Try.prog 23 #[.pointer (some ⟨z, 0, none⟩), .bool bot] w (AtC w elZ false) := by
  obtain ⟨W0, hW0⟩ : ∃ W, W = w.alloc (.cells (elA elZ) elT) := ⟨_, rfl⟩
  have hb0 : Below w.heap.size w W0 := by rw [hW0]; exact below_alloc w _
  have hk0 : BoxEl W0 w.heap.size elZ := by rw [hW0]; exact BoxEl.made w _
  have hL := look_any (h.below hb0) hM bot
  rw [hV] at hL
  have HL := hide hL
  obtain ⟨k, hkk⟩ : ∃ k, k = w.heap.size := ⟨_, rfl⟩
  rw [← hkk] at hk0
  have HK := hide hk0
  have HB0 := hide hb0
  have hz0 := zero_el
  clear h hk0 hb0 hL hV
  go_enter Try.func23, Try.ntmps23
  go_upto_region 1 with fail
  rw [← hW0, ← hkk]
  have HKK := hide hkk
  clear hW0 hkk
  go_upto_region 2 with (first | (go_at_call 36; (with_reducible refine HL.out.mono ?_); rintro e w2 ⟨rfl, h1⟩; have H1 := hide h1; have HBX := hide (BoxEl.made w2 elZ); clear h1) | ((with_reducible refine wpList_stB ?_ (.tmp 6) (.tmp 12) ?_ w2.heap.size ?_ elZ elZ ?_ HBX.out ?_); rfl; rfl; rfl; rfl; intro w3 hk3 hg3))
  have HB3 : Hid (Below w.heap.size w w3) := hide (HB0.out.trans (((H1.out.alloc H1.out.size _).trans (below_grownBy hg3.out H1.out.size (by have := H1.out.size; simp; omega))).mono HB0.out.size))
  have HK3 : Hid (BoxEl w3 k elZ) := hide (HK.out.below ((H1.out.alloc H1.out.size _).trans (below_grownBy hg3.out H1.out.size (by have := H1.out.size; simp; omega))))
  clear H1 HBX hk3 hg3 HL
  go_wp2_with (first | ((with_reducible refine wpList_zeroB ?_ ?_ ?_); rfl; rfl) | ((with_reducible refine wpList_stB ?_ (.tmp 4) (.tmp 16) ?_ k ?_ elZ elZ ?_ HK3.out ?_); rfl; rfl; rfl; rfl; intro w5 hk5 hg5))
  refine ⟨rfl, _, results_cell_tmp (p := 4) (q := 5) (ty := elT) rfl _ _ ⟨k, 0, none⟩ rfl (elV elZ) (.bool false) rfl (loadB hk5.out), rfl, ?_⟩
  exact HB3.out.trans (below_grownBy hg5.out (by rw [HKK.out]; exact Nat.le_refl _) HB3.out.size)
theorem setE (h : RgAt w z g LT M V) (hM : M ≤ 140737488355327) (bot : Bool) (x y : EL) (hx : endV bot V = some x) : Calls Try.prog 39 #[.pointer (some ⟨z, 0, none⟩), .int .i64 (if bot then 0 else (V.length : Int) - 1), elV y] w fun e w' => e = .returned (.bool true) ∧ RgAt w' z g LT M (V.set (endI bot V) y) ∧ Frm w w' (fun k => k = g) := by
  obtain ⟨S, b, hz, hg, hR, hS⟩ := h.ex
  have hlen := hR.len
  rw [endV_at] at hx
  have hl := (List.getElem?_eq_some_iff.1 hx).1
  have hRaw : Raw w z g LT S b V.length := ⟨hz, hg, hR.pos (by omega), hlen, h.ne, by omega⟩
  have hi : ((endI bot V : Nat) : Int) = if bot then 0 else (V.length : Int) - 1 := by
    cases bot
    · show ((V.length - 1 : Nat) : Int) = _
      rw [if_neg (by decide)]
      have : 0 < V.length := by omega
      omega
    · rfl
  rw [← hi]
  refine (set_in hRaw (endI bot V) hl y).mono (fun e w' ⟨q1, q2, q3⟩ => ⟨q1, ⟨⟨_, b, ?_, q2.row, hR.put (endI bot V) hl y, by rw [List.length_set]; exact hS⟩, h.ne⟩, q3⟩)
  have qb := q2.blk
  rw [List.length_set] at qb ⊢
  rw [List.length_set]
  exact qb
theorem lbump_yes (h : RgAt w z g LT M V) (hM : M ≤ 140737488355327) (bot : Bool) (x : EL) (hx : endV bot V = some x) (hnx : -9223372036854775808 ≤ x.nxt ∧ x.nxt ≤ 9223372036854775807) : Calls Try.prog 23 #[.pointer (some ⟨z, 0, none⟩), .bool bot] w (PopC w z g LT M (bumpE x) (V.set (endI bot V) (bumpE x))) := by
  obtain ⟨W0, hW0⟩ : ∃ W, W = w.alloc (.cells (elA elZ) elT) := ⟨_, rfl⟩
  have hb0 : Below w.heap.size w W0 := by rw [hW0]; exact below_alloc w _
  have hk0 : BoxEl W0 w.heap.size elZ := by rw [hW0]; exact BoxEl.made w _
  have hL := look_any (h.below hb0) hM bot
  rw [hx] at hL
  have HL := hide hL
  have hlt := h.lt
  have HR0 := hide (h.below hb0)
  obtain ⟨k, hkk⟩ : ∃ k, k = w.heap.size := ⟨_, rfl⟩
  rw [← hkk] at hk0
  have HK := hide hk0
  have HB0 := hide hb0
  have HLT := hide hlt
  have HX := hide hx
  have HM := hide hM
  have hz0 := zero_el
  clear h hk0 hb0 hL hx hlt
  go_enter Try.func23, Try.ntmps23
  go_upto_region 1 with fail
  rw [← hW0, ← hkk]
  have HKK := hide hkk
  clear hW0 hkk
  go_upto_region 2 with (first | (go_at_call 36; (with_reducible refine HL.out.mono ?_); rintro e w2 ⟨rfl, h1⟩; have H1 := hide h1; have HBX := hide (BoxEl.made w2 elZ); clear h1) | ((with_reducible refine wpList_stB ?_ (.tmp 6) (.tmp 12) ?_ w2.heap.size ?_ x elZ ?_ HBX.out ?_); rfl; rfl; rfl; rfl; intro w3 hk3 hg3))
  have HB2 : Hid (Below W0.heap.size W0 w3) := hide ((H1.out.alloc H1.out.size _).trans (below_grownBy hg3.out H1.out.size (by have := H1.out.size; simp; omega)))
  have HX2 : Hid (Bx2 w w3 k w2.heap.size elZ x) := hide (by
    have s0 := HB0.out.size
    have s1 := H1.out.size
    exact ⟨HB0.out.trans (HB2.out.mono s0), HK.out.below HB2.out, hk3.out, by rw [HKK.out]; exact Nat.le_refl _, by omega⟩)
  have HR3 := hide (HR0.out.below HB2.out)
  have HKN : Hid (k ≠ w2.heap.size) := hide (by have s0 := HK.out.lt; have s1 := H1.out.size; omega)
  obtain ⟨k6, hk6⟩ : ∃ k, k = w2.heap.size := ⟨_, rfl⟩
  rw [← hk6] at HX2 HKN ⊢
  clear hk6 hk3 hg3 HBX H1 HL HB2 HR0
  have hc6 := HX2.out.b6.nxt
  have hf6 := Blk.frozen HX2.out.b6 32
  have hl6 := HX2.out.b6.lt
  obtain ⟨y, hy⟩ : ∃ y, y = bumpE x := ⟨_, rfl⟩
  have HY := hide hy
  -- behind region 5: the box holds the bumped one
  by_cases hlt : x.nxt < 9223372036854775807
  · have hlx : x.nxt < 9223372036854775807 := hlt
    clear hy
    go_upto_region 6 with fail
    refine name_world (fun W => Bx2 w W k k6 elZ y ∧ RgAt W z g LT M V) ⟨⟨HX2.out.bel.trans (below_grownBy (grownBy_set w3 k6 32 _) HX2.out.l6 HX2.out.bel.size), Blk.setOther HX2.out.b4 _ _ HKN.out, by rw [HY.out]; exact HX2.out.b6.bump hlt, HX2.out.l4, HX2.out.l6⟩, HR3.out.same (heap_setCell_other _ _ _ _ (fun e => by have e : z = k6 := e; have := HLT.out.1; have := HX2.out.l6; omega)) (heap_setCell_other _ _ _ _ (fun e => by have e : g = k6 := e; have := HLT.out.2; have := HX2.out.l6; omega))⟩ ?_
    rintro W ⟨hX, hR⟩
    clear HX2 HR3 hc6 hf6 hl6
    have HX2 := hide hX
    have HR3 := hide hR
    clear hX hR
    obtain ⟨S, b, hz, _, hRg, hS⟩ := HR3.out.ex
    have hE := end_any (w := W.drew) hz (by have := hRg.len; have := HM.out; omega) bot
    have HE := hide hE
    have hST := setE (w := W.drew) (HR3.out.drewN 1) HM.out bot x y HX.out
    have HST := hide hST
    generalize (if bot then 0 else (V.length : Int) - 1) = i at *
    have HK6G : Hid (k6 ≠ g) := hide (fun e => by have := HLT.out.2; have := HX2.out.l6; omega)
    have HK4G : Hid (k ≠ g) := hide (fun e => by have := HLT.out.2; have := HX2.out.l4; omega)
    have HK4Z : Hid (k ≠ z) := hide (fun e => by have := HLT.out.1; have := HX2.out.l4; omega)
    clear hz hRg hS hE hST
    refine lb6_walk _ (fun _ _ _ _ _ h => h) W z k6 i bot y (fun w' => w' = W.drew) (fun w' => RgAt w' z g LT M (V.set (endI bot V) y) ∧ Frm W w' (fun q => q = g)) HX2.out.b6 HE.out ?_ ?_ ?_ _ (Nat.lt_of_sub_pos (by exact Nat.succ_pos _)) rfl rfl rfl ?_
    · rintro w' rfl; exact HX2.out.b6
    · rintro w' rfl
      exact HST.out.mono (fun e w4 q => ⟨q.1, q.2.1, Frm.undrew q.2.2⟩)
    · rintro w' q
      exact q.2.box HX2.out.b6 HK6G.out
    rintro w5 rfl w4 ⟨h1, h2⟩
    have B4 := hide (h2.box HX2.out.b4 HK4G.out)
    have B6 := hide (h2.box HX2.out.b6 HK6G.out)
    have H1 := hide h1
    have H2 : Hid (Frm w w4 (fun k => k = z ∨ k = g)) := hide ((Frm.of_below HX2.out.bel).trans h2 (fun i hi e => .inr e))
    clear h1 h2 HE HST HX2 HR3
    simp only [Act.put, List.setIfInBounds_toArray, List.set_cons_zero, List.set_cons_succ]
    go_wp2_with (first | ((with_reducible refine wpList_ldB ?_ (.tmp 6) ?_ k6 ?_ y B6.out ?_); rfl; rfl; rfl) | ((with_reducible refine wpList_stB ?_ (.tmp 4) (.tmp 34) ?_ k ?_ y elZ ?_ B4.out ?_); rfl; rfl; rfl; rfl; intro w5 hk5 hg5))
    rw [← HY.out]
    refine ⟨rfl, _, results_cell_tmp (p := 4) (q := 5) (ty := elT) rfl _ _ ⟨k, 0, none⟩ rfl (elV y) (.bool true) rfl (loadB hk5.out), rfl, ?_⟩
    refine ⟨⟨g, H1.out.same (hg5.out.block _ H1.out.lt.1 (fun e => HK4Z.out (Option.some.inj e).symm)) (hg5.out.block _ H1.out.lt.2 (fun e => HK4G.out (Option.some.inj e).symm)), .inl rfl⟩, H2.out.trans (Frm.of_grown (T := fun q => q = k) hg5.out (.inl rfl)) (fun i hi e => by rw [e, HKK.out] at hi; omega)⟩
  · have hlx : ¬ x.nxt < 9223372036854775807 := hlt
    clear hy
    go_upto_region 6 with fail
    refine name_world (fun W => Bx2 w W k k6 elZ y ∧ RgAt W z g LT M V) ⟨⟨HX2.out.bel, HX2.out.b4, by rw [HY.out, bumpE_max hlt]; exact HX2.out.b6, HX2.out.l4, HX2.out.l6⟩, HR3.out⟩ ?_
    rintro W ⟨hX, hR⟩
    clear HX2 HR3 hc6 hf6 hl6
    have HX2 := hide hX
    have HR3 := hide hR
    clear hX hR
    obtain ⟨S, b, hz, _, hRg, hS⟩ := HR3.out.ex
    have hE := end_any (w := W.drew) hz (by have := hRg.len; have := HM.out; omega) bot
    have HE := hide hE
    have hST := setE (w := W.drew) (HR3.out.drewN 1) HM.out bot x y HX.out
    have HST := hide hST
    generalize (if bot then 0 else (V.length : Int) - 1) = i at *
    have HK6G : Hid (k6 ≠ g) := hide (fun e => by have := HLT.out.2; have := HX2.out.l6; omega)
    have HK4G : Hid (k ≠ g) := hide (fun e => by have := HLT.out.2; have := HX2.out.l4; omega)
    have HK4Z : Hid (k ≠ z) := hide (fun e => by have := HLT.out.1; have := HX2.out.l4; omega)
    clear hz hRg hS hE hST
    refine lb6_walk _ (fun _ _ _ _ _ h => h) W z k6 i bot y (fun w' => w' = W.drew) (fun w' => RgAt w' z g LT M (V.set (endI bot V) y) ∧ Frm W w' (fun q => q = g)) HX2.out.b6 HE.out ?_ ?_ ?_ _ (Nat.lt_of_sub_pos (by exact Nat.succ_pos _)) rfl rfl rfl ?_
    · rintro w' rfl; exact HX2.out.b6
    · rintro w' rfl
      exact HST.out.mono (fun e w4 q => ⟨q.1, q.2.1, Frm.undrew q.2.2⟩)
    · rintro w' q
      exact q.2.box HX2.out.b6 HK6G.out
    rintro w5 rfl w4 ⟨h1, h2⟩
    have B4 := hide (h2.box HX2.out.b4 HK4G.out)
    have B6 := hide (h2.box HX2.out.b6 HK6G.out)
    have H1 := hide h1
    have H2 : Hid (Frm w w4 (fun k => k = z ∨ k = g)) := hide ((Frm.of_below HX2.out.bel).trans h2 (fun i hi e => .inr e))
    clear h1 h2 HE HST HX2 HR3
    simp only [Act.put, List.setIfInBounds_toArray, List.set_cons_zero, List.set_cons_succ]
    go_wp2_with (first | ((with_reducible refine wpList_ldB ?_ (.tmp 6) ?_ k6 ?_ y B6.out ?_); rfl; rfl; rfl) | ((with_reducible refine wpList_stB ?_ (.tmp 4) (.tmp 34) ?_ k ?_ y elZ ?_ B4.out ?_); rfl; rfl; rfl; rfl; intro w5 hk5 hg5))
    rw [← HY.out]
    refine ⟨rfl, _, results_cell_tmp (p := 4) (q := 5) (ty := elT) rfl _ _ ⟨k, 0, none⟩ rfl (elV y) (.bool true) rfl (loadB hk5.out), rfl, ?_⟩
    refine ⟨⟨g, H1.out.same (hg5.out.block _ H1.out.lt.1 (fun e => HK4Z.out (Option.some.inj e).symm)) (hg5.out.block _ H1.out.lt.2 (fun e => HK4G.out (Option.some.inj e).symm)), .inl rfl⟩, H2.out.trans (Frm.of_grown (T := fun q => q = k) hg5.out (.inl rfl)) (fun i hi e => by rw [e, HKK.out] at hi; omega)⟩

end
end RG
end Go.Proofs.Ytiogblfdchdioaa
