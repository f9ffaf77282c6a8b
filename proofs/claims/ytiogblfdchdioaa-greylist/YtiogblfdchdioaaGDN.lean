/- The law's moves, kind by kind. -/
import Derived.Test.YtiogblfdchdioaaGDM
namespace Go.Proofs.Ytiogblfdchdioaa
set_option linter.unusedVariables false
set_option linter.unusedSimpArgs false
namespace RG
open Go.RowKit
set_option maxRecDepth 100000

theorem GrS.pq2 {w W : World} {z q N : Nat} {V V2 : List EL} {f : FuncId} {args : Array Value} {X : Ending} (h : GrS w N W z q V V2) (hc : ∀ g, RgAt W z g LT GM V → Calls Try.prog f args W fun e W' => e = X ∧ Below W.heap.size W W') :
    Calls Try.prog f args W fun e W' => e = X ∧ GrS w N W' z q V V2 ∧ Frm W W' (fun k => k < N) := by
  obtain ⟨g, B, v, h1, _⟩ := h.ex
  exact (hc g h1).mono (fun e W' ⟨he, k⟩ => ⟨he, h.keep k, Frm.of_below k⟩)
set_option maxHeartbeats 8000000 in
theorem moves_3 {w W0 : World} {z q : Nat} {V : List EL} (h : GrS w W0.heap.size W0 z q V V) (ho : OkV V) (hl : V.length < GM) (bt : Bool) (ks : List UInt8) :
    Calls Try.prog 7 #[.pointer (some ⟨z, 0, none⟩), .pointer (some ⟨q, 0, none⟩), .agg (mvL 3 false bt ks).toArray] W0 (MvC w z q (V.length + 1)) := by
  obtain ⟨x, ok, V1, o1, l1, hp⟩ := pair_bump h (Nat.le_of_lt hl) ho bt
  have HP := hide hp
  have HO := hide o1
  have HL := hide l1
  have HM := hide (Mv0.made h 3 false bt ks)
  clear hp o1 l1 ho
  have hz0 := zero_el
  have HZ : Hid (z < W0.heap.size ∧ q < W0.heap.size ∧ w.heap.size ≤ W0.heap.size) := hide ⟨h.lt.1, h.lt.2, h.bel.size⟩
  clear h
  go_enter Try.func7, Try.ntmps7
  go_upto_region 3 with fail
  refine name_world2 (fun W => Mv0 w W0 W z q V 3 false bt ks) HM.out ?_
  clear HM
  intro W hM
  have c0 := hM.bx.c0
  have c1 := hM.bx.c1
  have c2 := hM.bx.c2
  have HM := hide hM
  clear hM
  have HB1 := hide HM.out.bx
  have G1 := hide HM.out.gs
  have S1 := hide HM.out.sz
  go_upto_region 23 with (first | (go_at_call 23; (with_reducible refine (HP.out.p W HM.out.sz HM.out.bel).mono ?_); rintro e W2 ⟨rfl, g2, f2⟩; have HB2 := hide (HB1.out.fr f2); have G2 := hide g2; have S2 := hide (Nat.le_trans S1.out f2.size); have d2 := HB2.out.c2; clear g2 f2) | ((with_reducible refine wpList_stB ?_ (.tmp 7) (.tmp 54) ?_ (W0.heap.size + 1) ?_ x elZ ?_ HB2.out.b7 ?_); rfl; rfl; rfl; rfl; intro W3 hk hg; have HB3 := hide (HB2.out.put7 hk.out hg.out); have G3 := hide (G2.out.box hg.out (by omega) (by omega) HZ.out.1 HZ.out.2.1 HZ.out.2.2); have S3 := hide (Nat.le_trans S2.out hg.out.size); have d3 := HB3.out.c2; clear hk hg) | (go_at_call 24; (with_reducible refine (HP.out.r W3 S3.out G3.out).mono ?_); rintro e W4 ⟨rfl, g2, f2⟩; have HB4 := hide (HB3.out.fr f2); have G4 := hide g2; have S4 := hide (Nat.le_trans S3.out f2.size); have d4 := HB4.out.c2; clear g2 f2) | ((with_reducible refine wpList_stB ?_ (.tmp 8) (.tmp 61) ?_ (W0.heap.size + 1 + 1) ?_ x elZ ?_ HB4.out.b8 ?_); rfl; rfl; rfl; rfl; intro W5 hk hg; have HB5 := hide (HB4.out.put8 hk.out hg.out); have G5 := hide (G4.out.box hg.out (by omega) (by omega) HZ.out.1 HZ.out.2.1 HZ.out.2.2); have S5 := hide (Nat.le_trans S4.out hg.out.size); have d5 := HB5.out.c2; clear hk hg))
  go_wp2_with (first | ((with_reducible refine wpList_ldB ?_ (.tmp 7) ?_ (W0.heap.size + 1) ?_ x HB5.out.b7 ?_); rfl; rfl; rfl) | ((with_reducible refine wpList_ldB ?_ (.tmp 8) ?_ (W0.heap.size + 1 + 1) ?_ x HB5.out.b8 ?_); rfl; rfl; rfl) | ((with_reducible refine wpList_eqlE ?_ (.tmp 94) (.tmp 95) elT ?_ x ?_ ?_ ?_); rfl; rfl; rfl; rfl))
  go_ret
  exact ⟨rfl, _, G5.out.renew, HO.out, Nat.le_succ_of_le HL.out⟩
set_option maxHeartbeats 8000000 in
theorem moves_4 {w W0 : World} {z q : Nat} {V : List EL} (h : GrS w W0.heap.size W0 z q V V) (ho : OkV V) (hl : V.length < GM) (bt : Bool) (ks : List UInt8) :
    Calls Try.prog 7 #[.pointer (some ⟨z, 0, none⟩), .pointer (some ⟨q, 0, none⟩), .agg (mvL 4 false bt ks).toArray] W0 (MvC w z q (V.length + 1)) := by
  obtain ⟨x, ok, V1, o1, l1, hp⟩ := pair_pop h (Nat.le_of_lt hl) ho bt
  have HP := hide hp
  have HO := hide o1
  have HL := hide l1
  have HM := hide (Mv0.made h 4 false bt ks)
  clear hp o1 l1 ho
  have hz0 := zero_el
  have HZ : Hid (z < W0.heap.size ∧ q < W0.heap.size ∧ w.heap.size ≤ W0.heap.size) := hide ⟨h.lt.1, h.lt.2, h.bel.size⟩
  clear h
  go_enter Try.func7, Try.ntmps7
  go_upto_region 3 with fail
  refine name_world2 (fun W => Mv0 w W0 W z q V 4 false bt ks) HM.out ?_
  clear HM
  intro W hM
  have c0 := hM.bx.c0
  have c1 := hM.bx.c1
  have c2 := hM.bx.c2
  have HM := hide hM
  clear hM
  have HB1 := hide HM.out.bx
  have G1 := hide HM.out.gs
  have S1 := hide HM.out.sz
  go_upto_region 23 with (first | (go_at_call 25; (with_reducible refine (HP.out.p W HM.out.sz HM.out.bel).mono ?_); rintro e W2 ⟨rfl, g2, f2⟩; have HB2 := hide (HB1.out.fr f2); have G2 := hide g2; have S2 := hide (Nat.le_trans S1.out f2.size); have d2 := HB2.out.c2; clear g2 f2) | ((with_reducible refine wpList_stB ?_ (.tmp 7) (.tmp 70) ?_ (W0.heap.size + 1) ?_ x elZ ?_ HB2.out.b7 ?_); rfl; rfl; rfl; rfl; intro W3 hk hg; have HB3 := hide (HB2.out.put7 hk.out hg.out); have G3 := hide (G2.out.box hg.out (by omega) (by omega) HZ.out.1 HZ.out.2.1 HZ.out.2.2); have S3 := hide (Nat.le_trans S2.out hg.out.size); have d3 := HB3.out.c2; clear hk hg) | (go_at_call 26; (with_reducible refine (HP.out.r W3 S3.out G3.out).mono ?_); rintro e W4 ⟨rfl, g2, f2⟩; have HB4 := hide (HB3.out.fr f2); have G4 := hide g2; have S4 := hide (Nat.le_trans S3.out f2.size); have d4 := HB4.out.c2; clear g2 f2) | ((with_reducible refine wpList_stB ?_ (.tmp 8) (.tmp 77) ?_ (W0.heap.size + 1 + 1) ?_ x elZ ?_ HB4.out.b8 ?_); rfl; rfl; rfl; rfl; intro W5 hk hg; have HB5 := hide (HB4.out.put8 hk.out hg.out); have G5 := hide (G4.out.box hg.out (by omega) (by omega) HZ.out.1 HZ.out.2.1 HZ.out.2.2); have S5 := hide (Nat.le_trans S4.out hg.out.size); have d5 := HB5.out.c2; clear hk hg))
  go_wp2_with (first | ((with_reducible refine wpList_ldB ?_ (.tmp 7) ?_ (W0.heap.size + 1) ?_ x HB5.out.b7 ?_); rfl; rfl; rfl) | ((with_reducible refine wpList_ldB ?_ (.tmp 8) ?_ (W0.heap.size + 1 + 1) ?_ x HB5.out.b8 ?_); rfl; rfl; rfl) | ((with_reducible refine wpList_eqlE ?_ (.tmp 94) (.tmp 95) elT ?_ x ?_ ?_ ?_); rfl; rfl; rfl; rfl))
  go_ret
  exact ⟨rfl, _, G5.out.renew, HO.out, Nat.le_succ_of_le HL.out⟩
set_option maxHeartbeats 8000000 in
theorem moves_2f {w W0 : World} {z q : Nat} {V : List EL} (h : GrS w W0.heap.size W0 z q V V) (ho : OkV V) (hl : V.length < GM) (ks : List UInt8) :
    Calls Try.prog 7 #[.pointer (some ⟨z, 0, none⟩), .pointer (some ⟨q, 0, none⟩), .agg (mvL 2 false false ks).toArray] W0 (MvC w z q (V.length + 1)) := by
  have HT : Hid (∀ W, GrS w W0.heap.size W z q V V → Calls Try.prog 21 #[.pointer (some ⟨z, 0, none⟩)] W fun e W' => e = .returned (.tuple #[elV ((endV false V).getD elZ), .bool (endV false V).isSome]) ∧ GrS w W0.heap.size W' z q V V ∧ Frm W W' (fun k => k < W0.heap.size)) := hide (fun W hW => hW.pq2 (fun g hg => ltop_any hg (by decide)))
  have HBo : Hid (∀ W, GrS w W0.heap.size W z q V V → Calls Try.prog 19 #[.pointer (some ⟨z, 0, none⟩)] W fun e W' => e = .returned (.tuple #[elV ((endV true V).getD elZ), .bool (endV true V).isSome]) ∧ GrS w W0.heap.size W' z q V V ∧ Frm W W' (fun k => k < W0.heap.size)) := hide (fun W hW => hW.pq2 (fun g hg => lbottom_any hg (by decide)))
  have HA : Hid (∀ W, GrS w W0.heap.size W z q V V → Calls Try.prog 22 #[.pointer (some ⟨q, 0, none⟩), .bool false] W fun e W' => e = .returned (.tuple #[elV ((endV false V).getD elZ), .bool (endV false V).isSome]) ∧ GrS w W0.heap.size W' z q V V ∧ Frm W W' (fun k => k < W0.heap.size)) := hide (fun W hW => hW.rq (fun B v hv => rat_any hv (Nat.le_of_lt hl) false))
  obtain ⟨x, hx⟩ : ∃ x, x = (endV false V).getD elZ := ⟨_, rfl⟩
  obtain ⟨ok, hok⟩ : ∃ x, x = (endV false V).isSome := ⟨_, rfl⟩
  obtain ⟨y, hy⟩ : ∃ x, x = (endV false V).getD elZ := ⟨_, rfl⟩
  obtain ⟨oy, hoy⟩ : ∃ x, x = (endV false V).isSome := ⟨_, rfl⟩
  rw [← hx, ← hok] at HT HA
  clear hy hoy y oy
  have HO := hide ho
  have HM := hide (Mv0.made h 2 false false ks)
  clear hx hok ho
  have hz0 := zero_el
  have HZ : Hid (z < W0.heap.size ∧ q < W0.heap.size ∧ w.heap.size ≤ W0.heap.size) := hide ⟨h.lt.1, h.lt.2, h.bel.size⟩
  clear h
  go_enter Try.func7, Try.ntmps7
  go_upto_region 3 with fail
  refine name_world2 (fun W => Mv0 w W0 W z q V 2 false false ks) HM.out ?_
  clear HM
  intro W hM
  have c0 := hM.bx.c0
  have c1 := hM.bx.c1
  have c2 := hM.bx.c2
  have HM := hide hM
  clear hM
  have HB1 := hide HM.out.bx
  have G1 := hide HM.out.gs
  have S1 := hide HM.out.sz
  go_upto_region 23 with (first | (go_at_call 21; (with_reducible refine (HT.out W G1.out).mono ?_); rintro e W2 ⟨rfl, g2, f2⟩; have HB2 := hide (HB1.out.fr f2); have G2 := hide g2; have S2 := hide (Nat.le_trans S1.out f2.size); have d2 := HB2.out.c2; clear g2 f2) | ((with_reducible refine wpList_stB ?_ (.tmp 7) (.tmp 31) ?_ (W0.heap.size + 1) ?_ x elZ ?_ HB2.out.b7 ?_); rfl; rfl; rfl; rfl; intro W3 hk hg; have HB3 := hide (HB2.out.put7 hk.out hg.out); have G3 := hide (G2.out.box hg.out (by omega) (by omega) HZ.out.1 HZ.out.2.1 HZ.out.2.2); have S3 := hide (Nat.le_trans S2.out hg.out.size); have d3 := HB3.out.c2; clear hk hg) | (go_at_call 22; (with_reducible refine (HA.out W3 G3.out).mono ?_); rintro e W4 ⟨rfl, g2, f2⟩; have HB4 := hide (HB3.out.fr f2); have G4 := hide g2; have S4 := hide (Nat.le_trans S3.out f2.size); have d4 := HB4.out.c2; clear g2 f2) | ((with_reducible refine wpList_stB ?_ (.tmp 8) (.tmp 45) ?_ (W0.heap.size + 1 + 1) ?_ x elZ ?_ HB4.out.b8 ?_); rfl; rfl; rfl; rfl; intro W5 hk hg; have HB5 := hide (HB4.out.put8 hk.out hg.out); have G5 := hide (G4.out.box hg.out (by omega) (by omega) HZ.out.1 HZ.out.2.1 HZ.out.2.2); have S5 := hide (Nat.le_trans S4.out hg.out.size); have d5 := HB5.out.c2; clear hk hg))
  go_wp2_with (first | ((with_reducible refine wpList_ldB ?_ (.tmp 7) ?_ (W0.heap.size + 1) ?_ x HB5.out.b7 ?_); rfl; rfl; rfl) | ((with_reducible refine wpList_ldB ?_ (.tmp 8) ?_ (W0.heap.size + 1 + 1) ?_ x HB5.out.b8 ?_); rfl; rfl; rfl) | ((with_reducible refine wpList_eqlE ?_ (.tmp 94) (.tmp 95) elT ?_ x ?_ ?_ ?_); rfl; rfl; rfl; rfl))
  go_ret
  exact ⟨rfl, _, G5.out.renew, HO.out, Nat.le_succ _⟩
set_option maxHeartbeats 8000000 in
theorem moves_2t {w W0 : World} {z q : Nat} {V : List EL} (h : GrS w W0.heap.size W0 z q V V) (ho : OkV V) (hl : V.length < GM) (ks : List UInt8) :
    Calls Try.prog 7 #[.pointer (some ⟨z, 0, none⟩), .pointer (some ⟨q, 0, none⟩), .agg (mvL 2 false true ks).toArray] W0 (MvC w z q (V.length + 1)) := by
  have HT : Hid (∀ W, GrS w W0.heap.size W z q V V → Calls Try.prog 21 #[.pointer (some ⟨z, 0, none⟩)] W fun e W' => e = .returned (.tuple #[elV ((endV false V).getD elZ), .bool (endV false V).isSome]) ∧ GrS w W0.heap.size W' z q V V ∧ Frm W W' (fun k => k < W0.heap.size)) := hide (fun W hW => hW.pq2 (fun g hg => ltop_any hg (by decide)))
  have HBo : Hid (∀ W, GrS w W0.heap.size W z q V V → Calls Try.prog 19 #[.pointer (some ⟨z, 0, none⟩)] W fun e W' => e = .returned (.tuple #[elV ((endV true V).getD elZ), .bool (endV true V).isSome]) ∧ GrS w W0.heap.size W' z q V V ∧ Frm W W' (fun k => k < W0.heap.size)) := hide (fun W hW => hW.pq2 (fun g hg => lbottom_any hg (by decide)))
  have HA : Hid (∀ W, GrS w W0.heap.size W z q V V → Calls Try.prog 22 #[.pointer (some ⟨q, 0, none⟩), .bool true] W fun e W' => e = .returned (.tuple #[elV ((endV true V).getD elZ), .bool (endV true V).isSome]) ∧ GrS w W0.heap.size W' z q V V ∧ Frm W W' (fun k => k < W0.heap.size)) := hide (fun W hW => hW.rq (fun B v hv => rat_any hv (Nat.le_of_lt hl) true))
  obtain ⟨x, hx⟩ : ∃ x, x = (endV true V).getD elZ := ⟨_, rfl⟩
  obtain ⟨ok, hok⟩ : ∃ x, x = (endV true V).isSome := ⟨_, rfl⟩
  obtain ⟨y, hy⟩ : ∃ x, x = (endV false V).getD elZ := ⟨_, rfl⟩
  obtain ⟨oy, hoy⟩ : ∃ x, x = (endV false V).isSome := ⟨_, rfl⟩
  rw [← hx, ← hok] at HBo HA
  rw [← hy, ← hoy] at HT
  clear hy hoy
  have HO := hide ho
  have HM := hide (Mv0.made h 2 false true ks)
  clear hx hok ho
  have hz0 := zero_el
  have HZ : Hid (z < W0.heap.size ∧ q < W0.heap.size ∧ w.heap.size ≤ W0.heap.size) := hide ⟨h.lt.1, h.lt.2, h.bel.size⟩
  clear h
  go_enter Try.func7, Try.ntmps7
  go_upto_region 3 with fail
  refine name_world2 (fun W => Mv0 w W0 W z q V 2 false true ks) HM.out ?_
  clear HM
  intro W hM
  have c0 := hM.bx.c0
  have c1 := hM.bx.c1
  have c2 := hM.bx.c2
  have HM := hide hM
  clear hM
  have HB1 := hide HM.out.bx
  have G1 := hide HM.out.gs
  have S1 := hide HM.out.sz
  go_upto_region 23 with (first | (go_at_call 21; (with_reducible refine (HT.out W G1.out).mono ?_); rintro e W2 ⟨rfl, g2, f2⟩; have HB2 := hide (HB1.out.fr f2); have G2 := hide g2; have S2 := hide (Nat.le_trans S1.out f2.size); have d2 := HB2.out.c2; clear g2 f2) | ((with_reducible refine wpList_stB ?_ (.tmp 7) (.tmp 31) ?_ (W0.heap.size + 1) ?_ y elZ ?_ HB2.out.b7 ?_); rfl; rfl; rfl; rfl; intro W3a hk hg; have HB3a := hide (HB2.out.put7 hk.out hg.out); have G3a := hide (G2.out.box hg.out (by omega) (by omega) HZ.out.1 HZ.out.2.1 HZ.out.2.2); have S3a := hide (Nat.le_trans S2.out hg.out.size); have d3a := HB3a.out.c2; clear hk hg) | (go_at_call 19; (with_reducible refine (HBo.out W3a G3a.out).mono ?_); rintro e W3b ⟨rfl, g2, f2⟩; have HB3b := hide (HB3a.out.fr f2); have G3b := hide g2; have S3b := hide (Nat.le_trans S3a.out f2.size); have d3b := HB3b.out.c2; clear g2 f2) | ((with_reducible refine wpList_stB ?_ (.tmp 7) (.tmp 38) ?_ (W0.heap.size + 1) ?_ x y ?_ HB3b.out.b7 ?_); rfl; rfl; rfl; rfl; intro W3 hk hg; have HB3 := hide (HB3b.out.put7 hk.out hg.out); have G3 := hide (G3b.out.box hg.out (by omega) (by omega) HZ.out.1 HZ.out.2.1 HZ.out.2.2); have S3 := hide (Nat.le_trans S3b.out hg.out.size); have d3 := HB3.out.c2; clear hk hg) | (go_at_call 22; (with_reducible refine (HA.out W3 G3.out).mono ?_); rintro e W4 ⟨rfl, g2, f2⟩; have HB4 := hide (HB3.out.fr f2); have G4 := hide g2; have S4 := hide (Nat.le_trans S3.out f2.size); have d4 := HB4.out.c2; clear g2 f2) | ((with_reducible refine wpList_stB ?_ (.tmp 8) (.tmp 45) ?_ (W0.heap.size + 1 + 1) ?_ x elZ ?_ HB4.out.b8 ?_); rfl; rfl; rfl; rfl; intro W5 hk hg; have HB5 := hide (HB4.out.put8 hk.out hg.out); have G5 := hide (G4.out.box hg.out (by omega) (by omega) HZ.out.1 HZ.out.2.1 HZ.out.2.2); have S5 := hide (Nat.le_trans S4.out hg.out.size); have d5 := HB5.out.c2; clear hk hg))
  go_wp2_with (first | ((with_reducible refine wpList_ldB ?_ (.tmp 7) ?_ (W0.heap.size + 1) ?_ x HB5.out.b7 ?_); rfl; rfl; rfl) | ((with_reducible refine wpList_ldB ?_ (.tmp 8) ?_ (W0.heap.size + 1 + 1) ?_ x HB5.out.b8 ?_); rfl; rfl; rfl) | ((with_reducible refine wpList_eqlE ?_ (.tmp 94) (.tmp 95) elT ?_ x ?_ ?_ ?_); rfl; rfl; rfl; rfl))
  go_ret
  exact ⟨rfl, _, G5.out.renew, HO.out, Nat.le_succ _⟩
set_option maxHeartbeats 8000000 in
theorem moves_6 {w W0 : World} {z q : Nat} {V : List EL} (h : GrS w W0.heap.size W0 z q V V) (ho : OkV V) (hl : V.length < GM) (bt : Bool) (ks : List UInt8) :
    Calls Try.prog 7 #[.pointer (some ⟨z, 0, none⟩), .pointer (some ⟨q, 0, none⟩), .agg (mvL 6 false bt ks).toArray] W0 (MvC w z q (V.length + 1)) := by
  have HA : Hid (∀ W, GrS w W0.heap.size W z q V V → Calls Try.prog 8 #[.pointer (some ⟨z, 0, none⟩), .pointer (some ⟨q, 0, none⟩)] W fun e W' => e = .returned (.bool true) ∧ GrS w W0.heap.size W' z q V V) := hide (fun W hW => by
    obtain ⟨g, B, v, h1, h2, _⟩ := hW.ex
    exact (own_any h1 (by decide) h2 (Nat.le_of_lt hl)).mono (fun e W' ⟨he, k⟩ => ⟨he, hW.keep k⟩))
  have HO := hide ho
  have HM := hide (Mv0.made h 6 false bt ks)
  clear ho
  have hz0 := zero_el
  have HZ : Hid (z < W0.heap.size ∧ q < W0.heap.size ∧ w.heap.size ≤ W0.heap.size) := hide ⟨h.lt.1, h.lt.2, h.bel.size⟩
  clear h
  go_enter Try.func7, Try.ntmps7
  go_upto_region 3 with fail
  refine name_world2 (fun W => Mv0 w W0 W z q V 6 false bt ks) HM.out ?_
  clear HM
  intro W hM
  have c0 := hM.bx.c0
  have c1 := hM.bx.c1
  have c2 := hM.bx.c2
  have HM := hide hM
  clear hM
  have HB1 := hide HM.out.bx
  have G1 := hide HM.out.gs
  have S1 := hide HM.out.sz
  go_wp2_with (go_at_call 8; (with_reducible refine (HA.out W G1.out).mono ?_); rintro e W2 ⟨rfl, g2⟩; have G2 := hide g2; clear g2)
  go_ret
  exact ⟨rfl, _, G2.out.renew, HO.out, Nat.le_succ _⟩
set_option maxHeartbeats 8000000 in
theorem moves_5 {w W0 : World} {z q : Nat} {V : List EL} (h : GrS w W0.heap.size W0 z q V V) (ho : OkV V) (hl : V.length < GM) (bt : Bool) (ks : List UInt8) :
    Calls Try.prog 7 #[.pointer (some ⟨z, 0, none⟩), .pointer (some ⟨q, 0, none⟩), .agg (mvL 5 false bt ks).toArray] W0 (MvC w z q (V.length + 1)) := by
  have HA : Hid (∀ W, GrS w W0.heap.size W z q V V → Calls Try.prog 9 #[.pointer (some ⟨z, 0, none⟩)] W fun e W' => e = .returned (.int .i64 (V.length : Int)) ∧ W' = W) := hide (fun W hW => by
    obtain ⟨g, B, v, h1, h2, _⟩ := hW.ex
    exact llen_any h1)
  have HO := hide ho
  have HM := hide (Mv0.made h 5 false bt ks)
  clear ho
  have hz0 := zero_el
  have HZ : Hid (z < W0.heap.size ∧ q < W0.heap.size ∧ w.heap.size ≤ W0.heap.size) := hide ⟨h.lt.1, h.lt.2, h.bel.size⟩
  clear h
  go_enter Try.func7, Try.ntmps7
  go_upto_region 3 with fail
  refine name_world2 (fun W => Mv0 w W0 W z q V 5 false bt ks) HM.out ?_
  clear HM
  intro W hM
  have c0 := hM.bx.c0
  have c1 := hM.bx.c1
  have c2 := hM.bx.c2
  have HM := hide hM
  clear hM
  have HB1 := hide HM.out.bx
  have G1 := hide HM.out.gs
  have S1 := hide HM.out.sz
  have hcq : ∃ ao c, W.cell? ⟨q, 0, none⟩ = some (.slice ao V.length c) ∧ q < W.heap.size := by
    obtain ⟨g, B, v, h1, h2, _⟩ := G1.out.ex
    obtain ⟨ao, c, rfl, _⟩ := h2.own.form
    exact ⟨ao, c, by rw [h2.blk.cell]; rfl, h2.blk.lt⟩
  obtain ⟨ao, c, cq, hq⟩ := hcq
  have G1d : Hid (GrS w W0.heap.size W.drew z q V V) := hide (G1.out.keep (below_dW W))
  go_upto_region 20 with fail
  go_region_with (go_at_call 9; (with_reducible refine (HA.out W.drew G1d.out).mono ?_); rintro e W2 ⟨rfl, hw2⟩; rw [hw2]; clear hw2)
  all_goals
    go_wp2
    go_ret
    exact ⟨rfl, _, G1d.out.renew, HO.out, Nat.le_succ _⟩
set_option maxHeartbeats 8000000 in
theorem moves_x {w W0 : World} {z q : Nat} {V : List EL} (h : GrS w W0.heap.size W0 z q V V) (ho : OkV V) (k : Int) (h1 : k ≠ 1) (h2 : k ≠ 2) (h3 : k ≠ 3) (h4 : k ≠ 4) (h5 : k ≠ 5) (h6 : k ≠ 6) (bt : Bool) (ks : List UInt8) :
    Calls Try.prog 7 #[.pointer (some ⟨z, 0, none⟩), .pointer (some ⟨q, 0, none⟩), .agg (mvL k false bt ks).toArray] W0 (MvC w z q (V.length + 1)) := by
  have HO := hide ho
  have HM := hide (Mv0.made h k false bt ks)
  clear ho
  have hz0 := zero_el
  have HZ : Hid (z < W0.heap.size ∧ q < W0.heap.size ∧ w.heap.size ≤ W0.heap.size) := hide ⟨h.lt.1, h.lt.2, h.bel.size⟩
  clear h
  go_enter Try.func7, Try.ntmps7
  go_upto_region 3 with fail
  refine name_world2 (fun W => Mv0 w W0 W z q V k false bt ks) HM.out ?_
  clear HM
  intro W hM
  have c0 := hM.bx.c0
  have c1 := hM.bx.c1
  have c2 := hM.bx.c2
  have HM := hide hM
  clear hM
  have HB1 := hide HM.out.bx
  have G1 := hide HM.out.gs
  have S1 := hide HM.out.sz
  go_upto_region 23 with fail
  go_wp2_with (first | ((with_reducible refine wpList_ldB ?_ (.tmp 7) ?_ (W0.heap.size + 1) ?_ elZ HB1.out.b7 ?_); rfl; rfl; rfl) | ((with_reducible refine wpList_ldB ?_ (.tmp 8) ?_ (W0.heap.size + 1 + 1) ?_ elZ HB1.out.b8 ?_); rfl; rfl; rfl) | ((with_reducible refine wpList_eqlE ?_ (.tmp 94) (.tmp 95) elT ?_ elZ ?_ ?_ ?_); rfl; rfl; rfl; rfl))
  go_ret
  exact ⟨rfl, _, G1.out.renew, HO.out, Nat.le_succ _⟩
theorem moves_any {w W0 : World} {z q : Nat} {V : List EL} (h : GrS w W0.heap.size W0 z q V V) (ho : OkV V) (hl : V.length < GM) (k : Int) (bt : Bool) (ks : List UInt8) (hks : ks.length = 32) :
    Calls Try.prog 7 #[.pointer (some ⟨z, 0, none⟩), .pointer (some ⟨q, 0, none⟩), .agg (mvL k false bt ks).toArray] W0 (MvC w z q (V.length + 1)) := by
  by_cases h1 : k = 1
  · subst h1; exact moves_1 h ho hl bt ks hks
  by_cases h2 : k = 2
  · subst h2
    cases bt
    · exact moves_2f h ho hl ks
    · exact moves_2t h ho hl ks
  by_cases h3 : k = 3
  · subst h3; exact moves_3 h ho hl bt ks
  by_cases h4 : k = 4
  · subst h4; exact moves_4 h ho hl bt ks
  by_cases h5 : k = 5
  · subst h5; exact moves_5 h ho hl bt ks
  by_cases h6 : k = 6
  · subst h6; exact moves_6 h ho hl bt ks
  exact moves_x h ho k h1 h2 h3 h4 h5 h6 bt ks
end RG
end Go.Proofs.Ytiogblfdchdioaa
