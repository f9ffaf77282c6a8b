/- The law's moves, of a nil list. -/
import Derived.Test.YtiogblfdchdioaaGDO
namespace Go.Proofs.Ytiogblfdchdioaa
set_option linter.unusedVariables false
set_option linter.unusedSimpArgs false
namespace RG
open Go.RowKit
set_option maxRecDepth 100000

structure Mn0 (W0 W : World) (k : Int) (nl bt : Bool) (ks : List UInt8) : Prop where
  bx : Bx3 W0 W W0.heap.size (W0.heap.size + 1) (W0.heap.size + 1 + 1) k nl bt ks elZ elZ
  bel : Below W0.heap.size W0 W
theorem Mn0.made (W0 : World) (k : Int) (nl bt : Bool) (ks : List UInt8) : Mn0 W0 (((W0.alloc (.cells (mvL k nl bt ks).toArray mvT)).alloc (.cells (elA elZ) elT)).alloc (.cells (elA elZ) elT)) k nl bt ks := by
  have b1 := below_alloc W0 (.cells (mvL k nl bt ks).toArray mvT)
  have b2 := below_alloc (W0.alloc (.cells (mvL k nl bt ks).toArray mvT)) (.cells (elA elZ) elT)
  have b3 := below_alloc ((W0.alloc (.cells (mvL k nl bt ks).toArray mvT)).alloc (.cells (elA elZ) elT)) (.cells (elA elZ) elT)
  have h1 : Blk (W0.alloc (.cells (mvL k nl bt ks).toArray mvT)) W0.heap.size (mvL k nl bt ks).toArray mvT := Blk.made _ _ _
  have h2 : BoxEl ((W0.alloc (.cells (mvL k nl bt ks).toArray mvT)).alloc (.cells (elA elZ) elT)) (W0.heap.size + 1) elZ := by
    have := BoxEl.made (W0.alloc (.cells (mvL k nl bt ks).toArray mvT)) elZ
    simpa using this
  have h3 : BoxEl (((W0.alloc (.cells (mvL k nl bt ks).toArray mvT)).alloc (.cells (elA elZ) elT)).alloc (.cells (elA elZ) elT)) (W0.heap.size + 1 + 1) elZ := by
    have := BoxEl.made ((W0.alloc (.cells (mvL k nl bt ks).toArray mvT)).alloc (.cells (elA elZ) elT)) elZ
    simpa using this
  exact ⟨⟨⟨(h1.below b2 h1.lt).below b3 (h1.below b2 h1.lt).lt⟩, h2.below b3, h3, Nat.le_refl _, by omega, by omega, by omega, by omega, by omega⟩, b1.trans ((b2.trans (b3.mono b2.size)).mono b1.size)⟩
/-- What a reading call leaves. -/
def NC (W0 W : World) (X : Ending) (e : Ending) (W' : World) : Prop := e = X ∧ Below W0.heap.size W0 W' ∧ Frm W W' (fun k => k < W0.heap.size)
theorem NC.of {W0 W : World} {X : Ending} {f : FuncId} {args : Array Value} (hW : Below W0.heap.size W0 W) (h : Calls Try.prog f args W fun e W' => e = X ∧ Below W.heap.size W W') : Calls Try.prog f args W fun e W' => e = X ∧ Below W0.heap.size W0 W' ∧ Frm W W' (fun k => k < W0.heap.size) :=
  h.mono (fun e W' ⟨he, k⟩ => ⟨he, hW.trans (k.mono hW.size), Frm.of_below k⟩)
theorem blk_rl {W : World} {q : Nat} (hq : Blk W q #[.slice none 0 0] RT) : RlAt W q 0 (.slice none 0 0) [] := ⟨hq, OwnG.nil _ _⟩
def MnC (W0 : World) (e : Ending) (W' : World) : Prop := e = .returned (.bool true) ∧ Below W0.heap.size W0 W'
set_option maxHeartbeats 8000000 in
theorem nmoves_1 {W0 : World} {q : Nat} (hq : Blk W0 q #[.slice none 0 0] RT) (bt : Bool) (ks : List UInt8) (hks : ks.length = 32) :
    Calls Try.prog 7 #[.pointer none, .pointer (some ⟨q, 0, none⟩), .agg (mvL 1 true bt ks).toArray] W0 (MnC W0) := by
  have HM := hide (Mn0.made W0 1 true bt ks)
  have HP : Hid (∀ W, Below W0.heap.size W0 W → Calls Try.prog 18 #[.pointer none, .agg (kA ks)] W fun e W' => e = .returned (.tuple #[]) ∧ Below W0.heap.size W0 W' ∧ Frm W W' (fun k => k < W0.heap.size)) := hide (fun W hW => NC.of hW (lpush_nil W ks))
  have hz0 := zero_el
  go_enter Try.func7, Try.ntmps7
  go_upto_region 3 with fail
  refine name_world2 (fun W => Mn0 W0 W 1 true bt ks) HM.out ?_
  clear HM
  intro W hM
  have c0 := hM.bx.c0
  have c1 := hM.bx.c1
  have c2 := hM.bx.c2
  have HM := hide hM
  clear hM
  have HB1 := hide HM.out.bx
  have G1 := hide HM.out.bel
  go_upto_region 23 with (first | ((with_reducible refine wpList_keyAt ?_ (.tmp 16) ?_ W0.heap.size 3 ?_ ks hks HB1.out.mv.key ?_); rfl; rfl; rfl) | (go_at_call 18; (with_reducible refine (HP.out W G1.out).mono ?_); rintro e W2 ⟨rfl, g2, f2⟩; have HB2 := hide (HB1.out.fr f2); have G2 := hide g2; have d2 := HB2.out.c2; have x2 := HB2.out.c1; clear g2 f2))
  go_wp2_with (first | ((with_reducible refine wpList_ldB ?_ (.tmp 7) ?_ (W0.heap.size + 1) ?_ elZ HB2.out.b7 ?_); rfl; rfl; rfl) | ((with_reducible refine wpList_ldB ?_ (.tmp 8) ?_ (W0.heap.size + 1 + 1) ?_ elZ HB2.out.b8 ?_); rfl; rfl; rfl) | ((with_reducible refine wpList_eqlE ?_ (.tmp 94) (.tmp 95) elT ?_ elZ ?_ ?_ ?_); rfl; rfl; rfl; rfl))
  go_ret
  exact ⟨rfl, G2.out⟩
set_option maxHeartbeats 8000000 in
theorem nmoves_3 {W0 : World} {q : Nat} (hq : Blk W0 q #[.slice none 0 0] RT) (bt : Bool) (ks : List UInt8) :
    Calls Try.prog 7 #[.pointer none, .pointer (some ⟨q, 0, none⟩), .agg (mvL 3 true bt ks).toArray] W0 (MnC W0) := by
  have HM := hide (Mn0.made W0 3 true bt ks)
  have HP : Hid (∀ W, Below W0.heap.size W0 W → Calls Try.prog 23 #[.pointer none, .bool bt] W fun e W' => e = .returned (.tuple #[elV elZ, .bool false]) ∧ Below W0.heap.size W0 W' ∧ Frm W W' (fun k => k < W0.heap.size)) := hide (fun W hW => NC.of hW (lbump_nil W bt))
  have HR : Hid (∀ W, Below W0.heap.size W0 W → Calls Try.prog 24 #[.pointer (some ⟨q, 0, none⟩), .bool bt] W fun e W' => e = .returned (.tuple #[elV elZ, .bool false]) ∧ Below W0.heap.size W0 W' ∧ Frm W W' (fun k => k < W0.heap.size)) := hide (fun W hW => NC.of hW (rbump_no (blk_rl (hq.below hW hq.lt)) (by simp) bt (by cases bt <;> rfl)))
  have hz0 := zero_el
  go_enter Try.func7, Try.ntmps7
  go_upto_region 3 with fail
  refine name_world2 (fun W => Mn0 W0 W 3 true bt ks) HM.out ?_
  clear HM
  intro W hM
  have c0 := hM.bx.c0
  have c1 := hM.bx.c1
  have c2 := hM.bx.c2
  have HM := hide hM
  clear hM
  have HB1 := hide HM.out.bx
  have G1 := hide HM.out.bel
  go_upto_region 23 with (first | (go_at_call 23; (with_reducible refine (HP.out W G1.out).mono ?_); rintro e W2 ⟨rfl, g2, f2⟩; have HB2 := hide (HB1.out.fr f2); have G2 := hide g2; have d2 := HB2.out.c2; have x2 := HB2.out.c1; clear g2 f2) | ((with_reducible refine wpList_stB ?_ (.tmp 7) (.tmp 54) ?_ (W0.heap.size + 1) ?_ elZ elZ ?_ HB2.out.b7 ?_); rfl; rfl; rfl; rfl; intro W3 hk hg; have HB3 := hide (HB2.out.put7 hk.out hg.out); have G3 := hide (G2.out.grown hg.out G2.out.size (fun k hk => by have := Option.some.inj hk; omega)); have d3 := HB3.out.c2; clear hk hg) | (go_at_call 24; (with_reducible refine (HR.out W3 G3.out).mono ?_); rintro e W4 ⟨rfl, g2, f2⟩; have HB4 := hide (HB3.out.fr f2); have G4 := hide g2; have d4 := HB4.out.c2; have x4 := HB4.out.c1; clear g2 f2) | ((with_reducible refine wpList_stB ?_ (.tmp 8) (.tmp 61) ?_ (W0.heap.size + 1 + 1) ?_ elZ elZ ?_ HB4.out.b8 ?_); rfl; rfl; rfl; rfl; intro W5 hk hg; have HB5 := hide (HB4.out.put8 hk.out hg.out); have G5 := hide (G4.out.grown hg.out G4.out.size (fun k hk => by have := Option.some.inj hk; omega)); have d5 := HB5.out.c2; clear hk hg))
  go_wp2_with (first | ((with_reducible refine wpList_ldB ?_ (.tmp 7) ?_ (W0.heap.size + 1) ?_ elZ HB5.out.b7 ?_); rfl; rfl; rfl) | ((with_reducible refine wpList_ldB ?_ (.tmp 8) ?_ (W0.heap.size + 1 + 1) ?_ elZ HB5.out.b8 ?_); rfl; rfl; rfl) | ((with_reducible refine wpList_eqlE ?_ (.tmp 94) (.tmp 95) elT ?_ elZ ?_ ?_ ?_); rfl; rfl; rfl; rfl))
  go_ret
  exact ⟨rfl, G5.out⟩
set_option maxHeartbeats 8000000 in
theorem nmoves_4 {W0 : World} {q : Nat} (hq : Blk W0 q #[.slice none 0 0] RT) (bt : Bool) (ks : List UInt8) :
    Calls Try.prog 7 #[.pointer none, .pointer (some ⟨q, 0, none⟩), .agg (mvL 4 true bt ks).toArray] W0 (MnC W0) := by
  have HM := hide (Mn0.made W0 4 true bt ks)
  have HP : Hid (∀ W, Below W0.heap.size W0 W → Calls Try.prog 25 #[.pointer none, .bool bt] W fun e W' => e = .returned (.tuple #[elV elZ, .bool false]) ∧ Below W0.heap.size W0 W' ∧ Frm W W' (fun k => k < W0.heap.size)) := hide (fun W hW => NC.of hW (lpop_nil W bt))
  have HR : Hid (∀ W, Below W0.heap.size W0 W → Calls Try.prog 26 #[.pointer (some ⟨q, 0, none⟩), .bool bt] W fun e W' => e = .returned (.tuple #[elV elZ, .bool false]) ∧ Below W0.heap.size W0 W' ∧ Frm W W' (fun k => k < W0.heap.size)) := hide (fun W hW => NC.of hW (rpop_none (blk_rl (hq.below hW hq.lt)) bt))
  have hz0 := zero_el
  go_enter Try.func7, Try.ntmps7
  go_upto_region 3 with fail
  refine name_world2 (fun W => Mn0 W0 W 4 true bt ks) HM.out ?_
  clear HM
  intro W hM
  have c0 := hM.bx.c0
  have c1 := hM.bx.c1
  have c2 := hM.bx.c2
  have HM := hide hM
  clear hM
  have HB1 := hide HM.out.bx
  have G1 := hide HM.out.bel
  go_upto_region 23 with (first | (go_at_call 25; (with_reducible refine (HP.out W G1.out).mono ?_); rintro e W2 ⟨rfl, g2, f2⟩; have HB2 := hide (HB1.out.fr f2); have G2 := hide g2; have d2 := HB2.out.c2; have x2 := HB2.out.c1; clear g2 f2) | ((with_reducible refine wpList_stB ?_ (.tmp 7) (.tmp 70) ?_ (W0.heap.size + 1) ?_ elZ elZ ?_ HB2.out.b7 ?_); rfl; rfl; rfl; rfl; intro W3 hk hg; have HB3 := hide (HB2.out.put7 hk.out hg.out); have G3 := hide (G2.out.grown hg.out G2.out.size (fun k hk => by have := Option.some.inj hk; omega)); have d3 := HB3.out.c2; clear hk hg) | (go_at_call 26; (with_reducible refine (HR.out W3 G3.out).mono ?_); rintro e W4 ⟨rfl, g2, f2⟩; have HB4 := hide (HB3.out.fr f2); have G4 := hide g2; have d4 := HB4.out.c2; have x4 := HB4.out.c1; clear g2 f2) | ((with_reducible refine wpList_stB ?_ (.tmp 8) (.tmp 77) ?_ (W0.heap.size + 1 + 1) ?_ elZ elZ ?_ HB4.out.b8 ?_); rfl; rfl; rfl; rfl; intro W5 hk hg; have HB5 := hide (HB4.out.put8 hk.out hg.out); have G5 := hide (G4.out.grown hg.out G4.out.size (fun k hk => by have := Option.some.inj hk; omega)); have d5 := HB5.out.c2; clear hk hg))
  go_wp2_with (first | ((with_reducible refine wpList_ldB ?_ (.tmp 7) ?_ (W0.heap.size + 1) ?_ elZ HB5.out.b7 ?_); rfl; rfl; rfl) | ((with_reducible refine wpList_ldB ?_ (.tmp 8) ?_ (W0.heap.size + 1 + 1) ?_ elZ HB5.out.b8 ?_); rfl; rfl; rfl) | ((with_reducible refine wpList_eqlE ?_ (.tmp 94) (.tmp 95) elT ?_ elZ ?_ ?_ ?_); rfl; rfl; rfl; rfl))
  go_ret
  exact ⟨rfl, G5.out⟩
set_option maxHeartbeats 8000000 in
theorem nmoves_2f {W0 : World} {q : Nat} (hq : Blk W0 q #[.slice none 0 0] RT) (ks : List UInt8) :
    Calls Try.prog 7 #[.pointer none, .pointer (some ⟨q, 0, none⟩), .agg (mvL 2 true false ks).toArray] W0 (MnC W0) := by
  have HM := hide (Mn0.made W0 2 true false ks)
  have HT : Hid (∀ W, Below W0.heap.size W0 W → Calls Try.prog 21 #[.pointer none] W fun e W' => e = .returned (.tuple #[elV elZ, .bool false]) ∧ Below W0.heap.size W0 W' ∧ Frm W W' (fun k => k < W0.heap.size)) := hide (fun W hW => NC.of hW (ltop_nil W))
  have HBo : Hid (∀ W, Below W0.heap.size W0 W → Calls Try.prog 19 #[.pointer none] W fun e W' => e = .returned (.tuple #[elV elZ, .bool false]) ∧ Below W0.heap.size W0 W' ∧ Frm W W' (fun k => k < W0.heap.size)) := hide (fun W hW => NC.of hW (lbottom_nil W))
  have HA : Hid (∀ W, Below W0.heap.size W0 W → Calls Try.prog 22 #[.pointer (some ⟨q, 0, none⟩), .bool false] W fun e W' => e = .returned (.tuple #[elV elZ, .bool false]) ∧ Below W0.heap.size W0 W' ∧ Frm W W' (fun k => k < W0.heap.size)) := hide (fun W hW => NC.of hW (rat_any (blk_rl (hq.below hW hq.lt)) (by simp) false))
  have hz0 := zero_el
  go_enter Try.func7, Try.ntmps7
  go_upto_region 3 with fail
  refine name_world2 (fun W => Mn0 W0 W 2 true false ks) HM.out ?_
  clear HM
  intro W hM
  have c0 := hM.bx.c0
  have c1 := hM.bx.c1
  have c2 := hM.bx.c2
  have HM := hide hM
  clear hM
  have HB1 := hide HM.out.bx
  have G1 := hide HM.out.bel
  go_upto_region 23 with (first | (go_at_call 21; (with_reducible refine (HT.out W G1.out).mono ?_); rintro e W2 ⟨rfl, g2, f2⟩; have HB2 := hide (HB1.out.fr f2); have G2 := hide g2; have d2 := HB2.out.c2; have x2 := HB2.out.c1; clear g2 f2) | ((with_reducible refine wpList_stB ?_ (.tmp 7) (.tmp 31) ?_ (W0.heap.size + 1) ?_ elZ elZ ?_ HB2.out.b7 ?_); rfl; rfl; rfl; rfl; intro W3 hk hg; have HB3 := hide (HB2.out.put7 hk.out hg.out); have G3 := hide (G2.out.grown hg.out G2.out.size (fun k hk => by have := Option.some.inj hk; omega)); have d3 := HB3.out.c2; clear hk hg) | (go_at_call 22; (with_reducible refine (HA.out W3 G3.out).mono ?_); rintro e W4 ⟨rfl, g2, f2⟩; have HB4 := hide (HB3.out.fr f2); have G4 := hide g2; have d4 := HB4.out.c2; have x4 := HB4.out.c1; clear g2 f2) | ((with_reducible refine wpList_stB ?_ (.tmp 8) (.tmp 45) ?_ (W0.heap.size + 1 + 1) ?_ elZ elZ ?_ HB4.out.b8 ?_); rfl; rfl; rfl; rfl; intro W5 hk hg; have HB5 := hide (HB4.out.put8 hk.out hg.out); have G5 := hide (G4.out.grown hg.out G4.out.size (fun k hk => by have := Option.some.inj hk; omega)); have d5 := HB5.out.c2; clear hk hg))
  go_wp2_with (first | ((with_reducible refine wpList_ldB ?_ (.tmp 7) ?_ (W0.heap.size + 1) ?_ elZ HB5.out.b7 ?_); rfl; rfl; rfl) | ((with_reducible refine wpList_ldB ?_ (.tmp 8) ?_ (W0.heap.size + 1 + 1) ?_ elZ HB5.out.b8 ?_); rfl; rfl; rfl) | ((with_reducible refine wpList_eqlE ?_ (.tmp 94) (.tmp 95) elT ?_ elZ ?_ ?_ ?_); rfl; rfl; rfl; rfl))
  go_ret
  exact ⟨rfl, G5.out⟩
set_option maxHeartbeats 8000000 in
theorem nmoves_2t {W0 : World} {q : Nat} (hq : Blk W0 q #[.slice none 0 0] RT) (ks : List UInt8) :
    Calls Try.prog 7 #[.pointer none, .pointer (some ⟨q, 0, none⟩), .agg (mvL 2 true true ks).toArray] W0 (MnC W0) := by
  have HM := hide (Mn0.made W0 2 true true ks)
  have HT : Hid (∀ W, Below W0.heap.size W0 W → Calls Try.prog 21 #[.pointer none] W fun e W' => e = .returned (.tuple #[elV elZ, .bool false]) ∧ Below W0.heap.size W0 W' ∧ Frm W W' (fun k => k < W0.heap.size)) := hide (fun W hW => NC.of hW (ltop_nil W))
  have HBo : Hid (∀ W, Below W0.heap.size W0 W → Calls Try.prog 19 #[.pointer none] W fun e W' => e = .returned (.tuple #[elV elZ, .bool false]) ∧ Below W0.heap.size W0 W' ∧ Frm W W' (fun k => k < W0.heap.size)) := hide (fun W hW => NC.of hW (lbottom_nil W))
  have HA : Hid (∀ W, Below W0.heap.size W0 W → Calls Try.prog 22 #[.pointer (some ⟨q, 0, none⟩), .bool true] W fun e W' => e = .returned (.tuple #[elV elZ, .bool false]) ∧ Below W0.heap.size W0 W' ∧ Frm W W' (fun k => k < W0.heap.size)) := hide (fun W hW => NC.of hW (rat_any (blk_rl (hq.below hW hq.lt)) (by simp) true))
  have hz0 := zero_el
  go_enter Try.func7, Try.ntmps7
  go_upto_region 3 with fail
  refine name_world2 (fun W => Mn0 W0 W 2 true true ks) HM.out ?_
  clear HM
  intro W hM
  have c0 := hM.bx.c0
  have c1 := hM.bx.c1
  have c2 := hM.bx.c2
  have HM := hide hM
  clear hM
  have HB1 := hide HM.out.bx
  have G1 := hide HM.out.bel
  go_upto_region 23 with (first | (go_at_call 21; (with_reducible refine (HT.out W G1.out).mono ?_); rintro e W2 ⟨rfl, g2, f2⟩; have HB2 := hide (HB1.out.fr f2); have G2 := hide g2; have d2 := HB2.out.c2; have x2 := HB2.out.c1; clear g2 f2) | ((with_reducible refine wpList_stB ?_ (.tmp 7) (.tmp 31) ?_ (W0.heap.size + 1) ?_ elZ elZ ?_ HB2.out.b7 ?_); rfl; rfl; rfl; rfl; intro W3a hk hg; have HB3a := hide (HB2.out.put7 hk.out hg.out); have G3a := hide (G2.out.grown hg.out G2.out.size (fun k hk => by have := Option.some.inj hk; omega)); have d3a := HB3a.out.c2; clear hk hg) | (go_at_call 19; (with_reducible refine (HBo.out W3a G3a.out).mono ?_); rintro e W3b ⟨rfl, g2, f2⟩; have HB3b := hide (HB3a.out.fr f2); have G3b := hide g2; have d3b := HB3b.out.c2; have x3b := HB3b.out.c1; clear g2 f2) | ((with_reducible refine wpList_stB ?_ (.tmp 7) (.tmp 38) ?_ (W0.heap.size + 1) ?_ elZ elZ ?_ HB3b.out.b7 ?_); rfl; rfl; rfl; rfl; intro W3 hk hg; have HB3 := hide (HB3b.out.put7 hk.out hg.out); have G3 := hide (G3b.out.grown hg.out G3b.out.size (fun k hk => by have := Option.some.inj hk; omega)); have d3 := HB3.out.c2; clear hk hg) | (go_at_call 22; (with_reducible refine (HA.out W3 G3.out).mono ?_); rintro e W4 ⟨rfl, g2, f2⟩; have HB4 := hide (HB3.out.fr f2); have G4 := hide g2; have d4 := HB4.out.c2; have x4 := HB4.out.c1; clear g2 f2) | ((with_reducible refine wpList_stB ?_ (.tmp 8) (.tmp 45) ?_ (W0.heap.size + 1 + 1) ?_ elZ elZ ?_ HB4.out.b8 ?_); rfl; rfl; rfl; rfl; intro W5 hk hg; have HB5 := hide (HB4.out.put8 hk.out hg.out); have G5 := hide (G4.out.grown hg.out G4.out.size (fun k hk => by have := Option.some.inj hk; omega)); have d5 := HB5.out.c2; clear hk hg))
  go_wp2_with (first | ((with_reducible refine wpList_ldB ?_ (.tmp 7) ?_ (W0.heap.size + 1) ?_ elZ HB5.out.b7 ?_); rfl; rfl; rfl) | ((with_reducible refine wpList_ldB ?_ (.tmp 8) ?_ (W0.heap.size + 1 + 1) ?_ elZ HB5.out.b8 ?_); rfl; rfl; rfl) | ((with_reducible refine wpList_eqlE ?_ (.tmp 94) (.tmp 95) elT ?_ elZ ?_ ?_ ?_); rfl; rfl; rfl; rfl))
  go_ret
  exact ⟨rfl, G5.out⟩
set_option maxHeartbeats 8000000 in
theorem nmoves_6 {W0 : World} {q : Nat} (hq : Blk W0 q #[.slice none 0 0] RT) (bt : Bool) (ks : List UInt8) :
    Calls Try.prog 7 #[.pointer none, .pointer (some ⟨q, 0, none⟩), .agg (mvL 6 true bt ks).toArray] W0 (MnC W0) := by
  have HM := hide (Mn0.made W0 6 true bt ks)
  have HA : Hid (∀ W, Below W0.heap.size W0 W → Calls Try.prog 8 #[.pointer none, .pointer (some ⟨q, 0, none⟩)] W fun e W' => e = .returned (.bool true) ∧ Below W0.heap.size W0 W' ∧ Frm W W' (fun k => k < W0.heap.size)) := hide (fun W hW => NC.of hW (own_nil (hq.below hW hq.lt)))
  have hz0 := zero_el
  go_enter Try.func7, Try.ntmps7
  go_upto_region 3 with fail
  refine name_world2 (fun W => Mn0 W0 W 6 true bt ks) HM.out ?_
  clear HM
  intro W hM
  have c0 := hM.bx.c0
  have c1 := hM.bx.c1
  have c2 := hM.bx.c2
  have HM := hide hM
  clear hM
  have HB1 := hide HM.out.bx
  have G1 := hide HM.out.bel
  go_wp2_with (go_at_call 8; (with_reducible refine (HA.out W G1.out).mono ?_); rintro e W2 ⟨rfl, g2, _⟩; have G2 := hide g2; clear g2)
  go_ret
  exact ⟨rfl, G2.out⟩
set_option maxHeartbeats 8000000 in
theorem nmoves_5 {W0 : World} {q : Nat} (hq : Blk W0 q #[.slice none 0 0] RT) (bt : Bool) (ks : List UInt8) :
    Calls Try.prog 7 #[.pointer none, .pointer (some ⟨q, 0, none⟩), .agg (mvL 5 true bt ks).toArray] W0 (MnC W0) := by
  have HM := hide (Mn0.made W0 5 true bt ks)
  have HA := hide llen_nil
  have HQ : Hid (∀ W, Below W0.heap.size W0 W → W.cell? ⟨q, 0, none⟩ = some (.slice none 0 0) ∧ q < W.heap.size) := hide (fun W hW => ⟨by rw [(hq.below hW hq.lt).cell]; rfl, (hq.below hW hq.lt).lt⟩)
  have hz0 := zero_el
  go_enter Try.func7, Try.ntmps7
  go_upto_region 3 with fail
  refine name_world2 (fun W => Mn0 W0 W 5 true bt ks) HM.out ?_
  clear HM
  intro W hM
  have c0 := hM.bx.c0
  have c1 := hM.bx.c1
  have c2 := hM.bx.c2
  have HM := hide hM
  clear hM
  have HB1 := hide HM.out.bx
  have G1 := hide HM.out.bel
  obtain ⟨cq, lq⟩ := HQ.out W G1.out
  have G1d : Hid (Below W0.heap.size W0 W.drew) := hide (G1.out.trans ((below_dW W).mono G1.out.size))
  go_upto_region 20 with fail
  go_region_with (go_at_call 9; (with_reducible refine (HA.out W.drew).mono ?_); rintro e W2 ⟨rfl, hw2⟩; rw [hw2]; clear hw2)
  all_goals
    go_wp2
    go_ret
    exact ⟨rfl, G1d.out⟩
set_option maxHeartbeats 8000000 in
theorem nmoves_x {W0 : World} {q : Nat} (k : Int) (h1 : k ≠ 1) (h2 : k ≠ 2) (h3 : k ≠ 3) (h4 : k ≠ 4) (h5 : k ≠ 5) (h6 : k ≠ 6) (bt : Bool) (ks : List UInt8) :
    Calls Try.prog 7 #[.pointer none, .pointer (some ⟨q, 0, none⟩), .agg (mvL k true bt ks).toArray] W0 (MnC W0) := by
  have HM := hide (Mn0.made W0 k true bt ks)
  have hz0 := zero_el
  go_enter Try.func7, Try.ntmps7
  go_upto_region 3 with fail
  refine name_world2 (fun W => Mn0 W0 W k true bt ks) HM.out ?_
  clear HM
  intro W hM
  have c0 := hM.bx.c0
  have c1 := hM.bx.c1
  have c2 := hM.bx.c2
  have HM := hide hM
  clear hM
  have HB1 := hide HM.out.bx
  have G1 := hide HM.out.bel
  go_upto_region 23 with fail
  go_wp2_with (first | ((with_reducible refine wpList_ldB ?_ (.tmp 7) ?_ (W0.heap.size + 1) ?_ elZ HB1.out.b7 ?_); rfl; rfl; rfl) | ((with_reducible refine wpList_ldB ?_ (.tmp 8) ?_ (W0.heap.size + 1 + 1) ?_ elZ HB1.out.b8 ?_); rfl; rfl; rfl) | ((with_reducible refine wpList_eqlE ?_ (.tmp 94) (.tmp 95) elT ?_ elZ ?_ ?_ ?_); rfl; rfl; rfl; rfl))
  go_ret
  exact ⟨rfl, G1.out⟩
theorem nmoves_any {W0 : World} {q : Nat} (hq : Blk W0 q #[.slice none 0 0] RT) (k : Int) (bt : Bool) (ks : List UInt8) (hks : ks.length = 32) :
    Calls Try.prog 7 #[.pointer none, .pointer (some ⟨q, 0, none⟩), .agg (mvL k true bt ks).toArray] W0 (MnC W0) := by
  by_cases h1 : k = 1
  · subst h1; exact nmoves_1 hq bt ks hks
  by_cases h2 : k = 2
  · subst h2
    cases bt
    · exact nmoves_2f hq ks
    · exact nmoves_2t hq ks
  by_cases h3 : k = 3
  · subst h3; exact nmoves_3 hq bt ks
  by_cases h4 : k = 4
  · subst h4; exact nmoves_4 hq bt ks
  by_cases h5 : k = 5
  · subst h5; exact nmoves_5 hq bt ks
  by_cases h6 : k = 6
  · subst h6; exact nmoves_6 hq bt ks
  exact nmoves_x k h1 h2 h3 h4 h5 h6 bt ks
end RG
end Go.Proofs.Ytiogblfdchdioaa
