/- ObjectKids, walked. -/
import Derived.Test.YtjcfndiceinkjaaOB15z
namespace Go.Proofs.Ytjcfndiceinkjaa
set_option linter.unusedVariables false
set_option linter.unusedSimpArgs false
open Go.RowKit

theorem ObjAt.blk {w : World} {z : Nat} {o : ObjR} {v : ObjV} (h : ObjAt w z o v) : Blk w z (objL o v).toArray 30 := h
theorem RowR_own {w : World} {B : Nat} {v : Value} {L : List (List UInt8)} (h : w.ownsRow B 27 32 v L.length (flatK L)) (ok : ∀ k ∈ L, okK k) (hm : L.length ≤ 9223372036854775807) : RowR w v 32 (L.map keyC) := by
  have hk : ∀ c ∈ L.map keyC, c.length = 32 := by intro c hc; obtain ⟨p, hp, rfl⟩ := List.mem_map.1 hc; exact keyC_len p (ok p hp)
  obtain ⟨h0, ⟨rfl, h1⟩ | ⟨g, cap, cur, rfl, hg, hr, hc, hmx, hs, ht⟩⟩ := h
  · have : L = [] := List.eq_nil_of_length_eq_zero h1
    subst this
    exact ⟨none, 0, rfl, by simp, fun _ => rfl, .inl rfl⟩
  · refine ⟨some ⟨g, 0, none⟩, cap, by rw [List.length_map], by rw [List.length_map]; exact hm, (fun e => nomatch e), .inr ⟨g, 0, rfl, rangeAt_each 32 _ 0 hk (fun j u hj => ?_)⟩⟩
    have hB : Blk w g cur 27 := hr
    rw [Nat.zero_add, hB.cell, ← Array.getElem?_toList]
    have hj' : (flatK L)[j]? = some u := hj
    rw [← ht] at hj'
    have hjl : j < (cur.toList.take (L.length * 32)).length := (List.getElem?_eq_some_iff.1 hj').1
    rw [List.length_take] at hjl
    rwa [List.getElem?_take, if_pos (by omega)] at hj'
theorem RowR.setCell {w : World} {v : Value} {k : Nat} {L : List (List Value)} (h : RowR w v k L) (a : Addr) (x : Value) (hne : ∀ b, v.ownBlock = some b → b ≠ a.block) : RowR (w.setCell a x) v k L := by
  obtain ⟨ao, c, h1, h2, hc, h | ⟨b, o, h3, h4⟩⟩ := h
  · exact ⟨ao, c, h1, h2, hc, .inl h⟩
  · refine ⟨ao, c, h1, h2, hc, .inr ⟨b, o, h3, fun i hi => rangeAt_set (h4 i hi) a x (hne b (by rw [h1, h3]; rfl))⟩⟩
theorem RowR.grown {w w' : World} {v : Value} {k : Nat} {L : List (List Value)} {row : Option Nat} (h : RowR w v k L) (hg : w.grownBy w' row) (hne : ∀ b, v.ownBlock = some b → some b ≠ row) : RowR w' v k L := by
  obtain ⟨ao, c, h1, h2, hc, h | ⟨b, o, h3, h4⟩⟩ := h
  · exact ⟨ao, c, h1, h2, hc, .inl h⟩
  · refine ⟨ao, c, h1, h2, hc, .inr ⟨b, o, h3, fun i hi j u hj => ?_⟩⟩
    have hcell := h4 i hi j u hj
    have hlt := World.block_lt_of_cell? w _ hcell
    rw [← hcell]
    simp only [World.cell?, hg.block b hlt (hne b (by rw [h1, h3]; rfl))]
theorem own_formK {w : World} {base : Nat} {v : Value} {n k : Nat} {ys : List Value} {e : TypeId} (h : w.ownsRow base e k v n ys) : ∃ ao cap, v = .slice ao n cap ∧ (0 < n → ∃ g, ao = some ⟨g, 0, none⟩) := by
  obtain ⟨_, ⟨rfl, rfl⟩ | ⟨g, cap, cur, rfl, _⟩⟩ := h
  · exact ⟨none, 0, rfl, fun h => absurd h (by omega)⟩
  · exact ⟨_, cap, rfl, fun _ => ⟨g, rfl⟩⟩
theorem own_atK {w : World} {base g cap n k : Nat} {ys : List Value} {e : TypeId} (h : w.ownsRow base e k (.slice (some ⟨g, 0, none⟩) n cap) n ys) (j : Nat) (x : Value) (hj : ys[j]? = some x) : w.cell? ⟨g, j, none⟩ = some x ∧ w.frozen? ⟨g, j, none⟩ = false := by
  obtain ⟨h0, ⟨e1, _⟩ | ⟨g', cap', cur, e1, hg, hr, hc, hmx, hs, ht⟩⟩ := h
  · cases e1
  · cases e1
    have hB : Blk w g cur e := hr
    refine ⟨?_, hB.frozen j⟩
    rw [← ht] at hj
    have hjl : j < (cur.toList.take (n * k)).length := (List.getElem?_eq_some_iff.1 hj).1
    rw [List.length_take] at hjl
    rw [hB.cell, ← Array.getElem?_toList]
    rwa [List.getElem?_take, if_pos (by omega)] at hj
theorem own_setK {w : World} {base g cap n k : Nat} {ys : List Value} {e : TypeId} (h : w.ownsRow base e k (.slice (some ⟨g, 0, none⟩) n cap) n ys) (j : Nat) (x : Value) : (w.setCell ⟨g, j, none⟩ x).ownsRow base e k (.slice (some ⟨g, 0, none⟩) n cap) n (ys.set j x) := by
  obtain ⟨h0, ⟨e1, _⟩ | ⟨g', cap', cur, e1, hg, hr, hc, hmx, hs, ht⟩⟩ := h
  · cases e1
  · cases e1
    have hB : Blk w g cur e := hr
    refine ⟨by rw [List.length_set]; exact h0, .inr ⟨g, cap, cur.setIfInBounds j x, rfl, hg, hB.set j x, hc, hmx, by rw [Array.size_setIfInBounds]; exact hs, ?_⟩⟩
    rw [Array.toList_setIfInBounds, ← ht, List.take_set]
theorem bk16 (n k L : Nat) (h : (n + 16) * 32 ≤ 140737488355328) (hk : k < 16) (hL : L = 1) : (n + k + L) * 32 ≤ 140737488355328 := by omega
theorem lk16 (n k L : Nat) (h : (n + 16) * 32 ≤ 140737488355328) (hk : k < 16) (hL : L = 1) : n + k + L ≤ 9223372036854775807 := by omega
def key77 : List UInt8 := List.replicate 7 0 ++ 119 :: List.replicate 24 0
theorem key77_ok : okK key77 := rfl
theorem run_build77 {op : Oper} {a : Act} (ho : op.op = .build 27 #[(7, .const (.int .u8 119))]) (w : World) : (execOp a.eval op).run Try.prog w = .ok (.value (keyV key77)) w := by
  simp only [execOp, ho]
  kernel_rfl
theorem flatK_at (L : List (List UInt8)) (ok : ∀ k ∈ L, okK k) (i : Nat) (h : i < L.length) : ∃ x : UInt8, (flatK L)[i * 32]? = some (u8c x) := by
  have hr : ∀ (L : List (List UInt8)), (∀ k ∈ L, okK k) → ∀ i, i < L.length → ∃ x : UInt8, (flatK L)[i * 32]? = some (u8c x) := by
    intro L
    induction L with
    | nil => intro _ i hi; simp at hi
    | cons c L ih =>
      intro ok i hi
      have hc := ok c (List.mem_cons_self ..)
      have hlc : (keyC c).length = 32 := keyC_len c hc
      unfold flatK
      rw [List.map_cons, List.flatten_cons]
      cases i with
      | zero =>
        unfold okK at hc
        rw [Nat.zero_mul, List.getElem?_append_left (by omega)]
        exact ⟨c[0]'(by omega), by unfold keyC; rw [List.getElem?_map, List.getElem?_eq_getElem (by omega)]; rfl⟩
      | succ i =>
        obtain ⟨x, hx⟩ := ih (fun k hk => ok k (List.mem_cons_of_mem _ hk)) i (by simpa using hi)
        refine ⟨x, ?_⟩
        rw [List.getElem?_append_right (by rw [hlc]; omega), hlc, show (i + 1) * 32 - 32 = i * 32 by omega]
        exact hx
  exact hr L ok i h
/-- What stays throughout: the object, its copy, the kids that are wanted. -/
structure KSt (w W : World) (z1 z3 : Nat) (o : ObjR) (v u : ObjV) (vw : Value) : Prop where
  A : ObjAt W z1 o v
  C : ObjAt W z3 o u
  R : ObjRd W o v
  F : Fresh w.heap.size W o u
  K : RowR W vw 32 ((kidsO o).map keyC)
theorem KSt.below {w W W' : World} {z1 z3 : Nat} {o : ObjR} {v u : ObjV} {vw : Value} (h : KSt w W z1 z3 o v u vw) (hb : Below W.heap.size W W') : KSt w W' z1 z3 o v u vw := ⟨h.A.below hb, h.C.below hb, h.R.below hb, h.F.below hb, h.K.below hb⟩
set_option maxRecDepth 20000 in
set_option maxHeartbeats 1000000 in
theorem kids_law (w : World) (o : ObjR) (v : ObjV) (hr : ObjRd w o v) (hs : ObjSz o) (h16 : ((kidsO o).length + 16) * 32 ≤ 140737488355328) : Calls Try.prog 3 #[.agg (objL o v).toArray] w (BoolC w true) := by
  have hzo := zero_obj
  have OKo := hide hr.ok
  have SZ := hide hs
  have OZ := hide (fun q => objL_size o q hr.ok.t)
  have HA : Hid (ObjAt (w.alloc (.cells (objL o v).toArray 30)) w.heap.size o v) := hide (Blk.made w _ _)
  have HW := hide (below_alloc w (.cells (objL o v).toArray 30))
  have HR := hide (hr.below HW.out)
  have KO := hide (kidsO_ok o hr.ok)
  obtain ⟨n, hn⟩ : ∃ n, n = (kidsO o).length := ⟨_, rfl⟩
  rw [← hn] at h16
  have H16 := hide h16
  have hnle : n ≤ 4398046511104 := by omega
  have HN := hide hn
  have HNm : Hid ((kidsO o).length ≤ 9223372036854775807) := hide (by rw [← hn]; omega)
  clear hr hs hn h16
  go_enter Try.func3, Try.ntmps3
  go_wp2_with (first | ((with_reducible refine wpList_load_obj (.tmp 1) w.heap.size (objL o v).toArray HA.out.blk (OZ.out v) ?_ ?_ ?_ ?_); rfl; rfl; rfl))
  refine (copied_any _ o v HR.out SZ.out).mono ?_
  rintro e w1 ⟨u, rfl, hF1, hb1⟩
  have HF1 := hide hF1
  have HA1 := hide (HA.out.below hb1)
  have HR1 := hide (HR.out.below hb1)
  have HW1 := hide (HW.out.trans (hb1.mono HW.out.size))
  have U1 := hide (all_oneCell_toArray (objL_one o u (hF1.rd OKo.out SZ.out.d).sl))
  have ZB : Hid (Blk (w1.alloc (.cells objZ 30)) w1.heap.size objZ 30) := hide (Blk.made w1 _ _)
  clear HA HR HW hF1 hb1
  go_wp2_with (first
    | ((with_reducible refine wpList_store_blk ?_ 30 (.tmp 3) (.tmp 10) ?_ w1.heap.size 39 objZ (objL o u).toArray 30 (OZ.out u) objZ_size ?_ ?_ ZB.out infoObj U1.out ?_); rfl; rfl; rfl; rfl; intro w2 hk2 hg2; have HB2 : Hid (Below w1.heap.size w1 w2) := (hide ((below_alloc w1 _).trans (below_grownBy hg2 (Nat.le_refl _) (below_alloc w1 _).size))); have HA2 := hide (HA1.out.below HB2.out))
    | ((with_reducible refine wpList_load_obj (.tmp 1) w.heap.size (objL o v).toArray HA2.out.blk (OZ.out v) ?_ ?_ ?_ ?_); rfl; rfl; rfl))
  have HC2 : Hid (ObjAt w2 w1.heap.size o u) := hide hk2
  have HF2 := hide (HF1.out.below HB2.out)
  have HR2 := hide (HR1.out.below HB2.out)
  have HW2 := hide (HW1.out.trans (HB2.out.mono HW1.out.size))
  obtain ⟨z3, hz3⟩ : ∃ z, z = w1.heap.size := ⟨_, rfl⟩
  rw [← hz3] at HC2 ⊢
  clear HF1 HA1 HR1 HW1 U1 ZB hk2 hg2 HB2 hz3
  refine (rkids_any w2 o v HR2.out SZ.out).mono ?_
  rintro e w3 ⟨vw, rfl, hO3, hb3⟩
  have K3 : Hid (KSt (w.alloc (.cells (objL o v).toArray 30)) w3 w.heap.size z3 o v u vw) := hide ⟨HA2.out.below hb3, HC2.out.below hb3, HR2.out.below hb3, HF2.out.below hb3, RowR_own hO3 KO.out HNm.out⟩
  have HW3 := hide (HW2.out.trans (hb3.mono HW2.out.size))
  clear HA2 HC2 HR2 HF2 HW2 hO3 hb3
  go_wp2_with (first
    | ((with_reducible refine wpList_load_obj (.tmp 3) z3 (objL o u).toArray K3.out.C.blk (OZ.out u) ?_ ?_ ?_ ?_); rfl; rfl; rfl))
  refine (kids_any w3 o u (K3.out.F.rd OKo.out SZ.out.d) SZ.out).mono ?_
  rintro e w4 ⟨vg, rfl, hO4, hb4⟩
  have K4 := hide (K3.out.below hb4)
  have HB4 := hide hb4
  have O4 := hide hO4
  clear hO4 hb4
  go_wp2_with (first
    | ((with_reducible refine wpList_load_obj (.tmp 3) z3 (objL o u).toArray K4.out.C.blk (OZ.out u) ?_ ?_ ?_ ?_); rfl; rfl; rfl))
  refine (kids_any w4 o u (K4.out.F.rd OKo.out SZ.out.d) SZ.out).mono ?_
  rintro e w5 ⟨va, rfl, hO5, hb5⟩
  have K5 := hide (K4.out.below hb5)
  have HB5 := hide (HB4.out.trans (hb5.mono HB4.out.size))
  have G5 := hide (ownsRow_belowK O4.out hb5)
  have A5 := hide (RowR_own hO5 KO.out HNm.out)
  have GLT : Hid (∀ g, vg.ownBlock = some g → w3.heap.size ≤ g ∧ g < w4.heap.size) := hide (fun g hg => ⟨ownsRow_ltK O4.out g hg, by
    obtain ⟨_, ⟨rfl, _⟩ | ⟨g', cap, cur, rfl, _, hh, _⟩⟩ := O4.out
    · cases hg
    · cases hg; exact Blk.lt (cs := cur) (t := 27) hh⟩)
  have ALT : Hid (∀ g, va.ownBlock = some g → w4.heap.size ≤ g ∧ g < w5.heap.size) := hide (fun g hg => ⟨ownsRow_ltK hO5 g hg, by
    obtain ⟨_, ⟨rfl, _⟩ | ⟨g', cap, cur, rfl, _, hh, _⟩⟩ := hO5
    · cases hg
    · cases hg; exact Blk.lt (cs := cur) (t := 27) hh⟩)
  have HS45 : Hid (w4.heap.size ≤ w5.heap.size) := hide hb5.size
  clear K4 HB4 O4 hO5 hb5
  go_wp2_with fail
  refine (lsameKeys w5 _ _ (kidsO o) (kidsO o) KO.out KO.out (RowR_own G5.out KO.out HNm.out) K5.out.K).mono ?_
  rintro e w6 ⟨rfl, hb6⟩
  rw [decide_eq_true (show kidsO o = kidsO o from rfl)]
  have K6 := hide (K5.out.below hb6)
  have HB6 := hide (HB5.out.trans (hb6.mono HB5.out.size))
  have G6 := hide (ownsRow_belowK G5.out hb6)
  have A6 := hide (A5.out.below hb6)
  have HS6 : Hid (w5.heap.size ≤ w6.heap.size) := hide hb6.size
  clear K5 HB5 G5 A5 hb6
  go_wp2_with fail
  refine (lsameKeys w6 _ _ (kidsO o) (kidsO o) KO.out KO.out A6.out K6.out.K).mono ?_
  rintro e w7 ⟨rfl, hb7⟩
  rw [decide_eq_true (show kidsO o = kidsO o from rfl)]
  have K7 := hide (K6.out.below hb7)
  have HB7 := hide (HB6.out.trans (hb7.mono HB6.out.size))
  have G7 := hide (ownsRow_belowK G6.out hb7)
  have A7 := hide (A6.out.below hb7)
  have HS7 : Hid (w5.heap.size ≤ w7.heap.size) := hide (Nat.le_trans HS6.out hb7.size)
  clear K6 HB6 G6 A6 hb7 HS6
  go_wp2_with (first
    | ((with_reducible refine wpList_load_obj (.tmp 3) z3 (objL o u).toArray K7.out.C.blk (OZ.out u) ?_ ?_ ?_ ?_); rfl; rfl; rfl)
    | ((with_reducible refine wpList_load_obj (.tmp 1) w.heap.size (objL o v).toArray K7.out.A.blk (OZ.out v) ?_ ?_ ?_ ?_); rfl; rfl; rfl))
  refine (rsame_any w7 o o u v (K7.out.F.rd OKo.out SZ.out.d) K7.out.R).mono ?_
  rintro e w8 ⟨rfl, hb8⟩
  rw [sameO_self]
  have HB8 := hide (HB7.out.trans (hb8.mono HB7.out.size))
  have G8 := hide (ownsRow_belowK G7.out hb8)
  have A8 := hide (A7.out.below hb8)
  have HS8 : Hid (w5.heap.size ≤ w8.heap.size) := hide (Nat.le_trans HS7.out hb8.size)
  obtain ⟨ag, cg, evg, hgg⟩ := own_formK G8.out
  rw [← HN.out] at evg hgg G8
  have HGG := hide hgg
  subst evg
  have C0 : Hid (∀ i, 0 ≤ i → i < n → ∃ x : UInt8, (flatK (kidsO o))[i * 32]? = some (u8c x)) := hide (fun i _ hi => flatK_at _ KO.out i (by rw [← HN.out]; exact hi))
  clear K7 HB7 G7 A7 hb8 HS7 hgg
  go_wp2
  go_loopw [7] (fun t wr => ∃ (k : Nat) (cs : List Value), t = .int .i64 k ∧ k ≤ n ∧ wr.ownsRow w3.heap.size 27 32 (.slice ag n cg) n cs ∧ (∀ i, k ≤ i → i < n → ∃ x : UInt8, cs[i * 32]? = some (u8c x)) ∧ RowR wr va 32 ((kidsO o).map keyC) ∧ Below w3.heap.size w3 wr ∧ w5.heap.size ≤ wr.heap.size) (fun t _ => n - (intOf t).toNat)
  case atStart => exact ⟨0, _, rfl, by omega, G8.out, C0.out, A8.out, HB8.out, HS8.out⟩
  case round =>
    clear C0 G8 A8 HB8 HS8
    obtain ⟨k, cs, rfl, hk, hO, hC, hA, hB, hS⟩ := hrel
    by_cases hlt : k < n
    · have hki : (k : Int) < (n : Int) := by omega
      obtain ⟨gg, egg⟩ := HGG.out (by omega)
      subst egg
      obtain ⟨x, hx⟩ := hC k (Nat.le_refl _) hlt
      obtain ⟨c1, f1⟩ := own_atK hO (k * 32) _ hx
      have c1' : wr.cell? ⟨gg, k * 32, none⟩ = some (.int .u8 (x.toNat : Int)) := c1
      obtain ⟨y, hy⟩ : ∃ y : Int, y = IntKind.u8.wrap ((x.toNat : Int) + 1) := ⟨_, rfl⟩
      have hwr : IntKind.u8.wrap ((x.toNat : Int) + 1) = y := hy.symm
      have hbl := GLT.out gg rfl
      have O2 := hide (own_setK (show wr.drew.ownsRow w3.heap.size 27 32 (.slice (some ⟨gg, 0, none⟩) n cg) n cs from hO) (k * 32) (.int .u8 y))
      have A2 := hide ((hA.below (below_d wr)).setCell ⟨gg, k * 32, none⟩ (.int .u8 y) (fun b hb => by have := ALT.out b hb; show b ≠ gg; omega))
      have B2 := hide (hB.drew.setCell (p := ⟨gg, k * 32, none⟩) hbl.1 (.int .u8 y))
      have C2 : Hid (∀ i, k + 1 ≤ i → i < n → ∃ x : UInt8, (cs.set (k * 32) (.int .u8 y))[i * 32]? = some (u8c x)) := hide (fun i hi hin => by
        obtain ⟨x', hx'⟩ := hC i (by omega) hin
        exact ⟨x', by rw [List.getElem?_set_ne (by omega)]; exact hx'⟩)
      have HS2 := hide hS
      clear hO hC hA hB hS hx c1 hy
      go_wp2
      refine wp_region_still_tail 10 (by kernel_rfl) (by kernel_rfl) ?_
      simp only [List.take_succ_cons, List.take_zero, List.drop_succ_cons, List.drop_zero]
      repeat still_step
      refine wpStill_nil ?_
      go_wp2
      exact ⟨⟨k + 1, _, by go_num, by omega, O2.out, C2.out, A2.out, B2.out, by have := HS2.out; simpa using this⟩, by simp [intOf]; omega⟩
    · have hki : ¬ (k : Int) < (n : Int) := by omega
      obtain ⟨wp, hwp⟩ : ∃ w0, w0 = wr := ⟨_, rfl⟩
      rw [← hwp] at hO hA hB hS ⊢
      have OP := hide hO
      have AP := hide hA
      have BP := hide hB
      have SP := hide hS
      clear hO hC hA hB hS hwp
      obtain ⟨mk, hmk⟩ : ∃ m, m = key77 := ⟨_, rfl⟩
      have MO : Hid (okK mk) := hide (by rw [hmk]; exact key77_ok)
      have MB : Hid (∀ {op : Oper} {a : Act}, op.op = .build 27 #[(7, .const (.int .u8 119))] → ∀ w, (execOp a.eval op).run Try.prog w = .ok (.value (keyV mk)) w) := hide (fun ho w => by rw [hmk]; exact run_build77 ho w)
      have ML := hide (keyC_len mk MO.out)
      clear hmk
      go_wp2
      go_loopw [5, 8] (fun s5 s8 wr => ∃ (k : Nat) (vx : Value) (cs : List Value), vx = s5 ∧ s8 = .int .i64 k ∧ k ≤ 16 ∧ wr.ownsRow w3.heap.size 27 32 vx (n + k) cs ∧ (∀ g, vx.ownBlock = some g → g < w4.heap.size ∨ w5.heap.size ≤ g) ∧ RowR wr va 32 ((kidsO o).map keyC) ∧ Below w3.heap.size w3 wr ∧ w5.heap.size ≤ wr.heap.size) (fun _ s8 _ => 16 - (intOf s8).toNat)
      case atStart => exact ⟨0, _, cs, rfl, rfl, by omega, OP.out, fun g hg => .inl (GLT.out g hg).2, AP.out, BP.out, SP.out⟩
      case round =>
        clear OP AP BP SP
        obtain ⟨k, vx, cs, hvx, rfl, hk, hO, hG, hA, hB, hS⟩ := hrel
        have HO := hide hO
        have HGx := hide hG
        have HAx := hide hA
        have HBx := hide hB
        have HSx := hide hS
        clear hO hG hA hB hS
        by_cases hlt : k < 16
        · have hki : (k : Int) < 16 := by omega
          have LK : Hid (n + k + [keyC mk].length ≤ 9223372036854775807) := hide (lk16 n k _ H16.out hlt rfl)
          have BK : Hid ((n + k + [keyC mk].length) * 32 ≤ 140737488355328) := hide (bk16 n k _ H16.out hlt rfl)
          have BS : Hid (w3.heap.size ≤ (wr.alloc (.cells (keyC mk).toArray 27)).heap.size) := hide (Nat.le_trans HBx.out.size (below_alloc wr _).size)
          go_wp2_with (first
            | ((with_reducible refine wpList_val (keyV mk) ?_ (MB.out ?_ _) ?_); rfl; rfl)
            | ((with_reducible refine wpList_bs1 (.tmp 54) mk MO.out ?_ ?_ ?_ ?_); rfl; rfl; rfl)
            | ((with_reducible refine wpList_append_row elemK ?_ (.tmp 53) (.tmp 55) ?_ w3.heap.size vx (.slice (some ⟨wr.heap.size, 0, none⟩) 1 1) (n + k) cs [keyC mk] ?_ (ownsRow_belowK HO.out (below_alloc wr _)) ?_ (row_one ML.out) (by simp [ML.out]) (by simpa using keyC_one mk) LK.out BK.out BS.out ?_); rfl; rfl; exact hvx.symm; rfl; intro v3 wz O3 G3 E3))
          have hb3 : Below wr.heap.size wr (wr.alloc (.cells (keyC mk).toArray 27)) := below_alloc wr _
          have hB3 := HBx.out.trans (hb3.mono HBx.out.size)
          refine ⟨⟨k + 1, v3, _, rfl, by go_num, by omega, O3.out, fun g hg => ?_, (HAx.out.below hb3).grown G3.out (fun b hb e => ?_), hB3.grown G3.out hB3.size (fun j hj => ownsRow_ltK HO.out j hj), Nat.le_trans HSx.out (Nat.le_trans hb3.size G3.out.size)⟩, by simp [intOf]; omega⟩
          · rcases E3.out with e | e
            · exact HGx.out g (by rw [← e]; exact hg)
            · rw [e] at hg
              have h1 := Option.some.inj hg
              have h2 := HSx.out
              right
              rw [← h1]
              exact Nat.le_trans h2 hb3.size
          · have h1 := ALT.out b hb
            have h2 := HGx.out b e.symm
            omega
        · have hki : ¬ (k : Int) < 16 := by omega
          have KE := hide (K3.out.below HBx.out)
          have hW := hide (HW3.out.trans (HBx.out.mono HW3.out.size))
          go_wp2_with (first
            | ((with_reducible refine wpList_load_obj (.tmp 3) z3 (objL o u).toArray KE.out.C.blk (OZ.out u) ?_ ?_ ?_ ?_); rfl; rfl; rfl)
            | ((with_reducible refine wpList_load_obj (.tmp 1) w.heap.size (objL o v).toArray KE.out.A.blk (OZ.out v) ?_ ?_ ?_ ?_); rfl; rfl; rfl))
          refine (rsame_any wr o o u v (KE.out.F.rd OKo.out SZ.out.d) KE.out.R).mono ?_
          rintro e q1 ⟨rfl, hc1⟩
          rw [sameO_self]
          have L1 := hide (KE.out.below hc1)
          have A1 := hide (HAx.out.below hc1)
          have W1 := hide (hW.out.trans (hc1.mono hW.out.size))
          clear KE hW hc1
          go_wp2_with (first
            | ((with_reducible refine wpList_load_obj (.tmp 3) z3 (objL o u).toArray L1.out.C.blk (OZ.out u) ?_ ?_ ?_ ?_); rfl; rfl; rfl))
          refine (left_any q1 _ o u L1.out.F OKo.out SZ.out).mono ?_
          rintro e q2 ⟨rfl, hc2⟩
          have L2 := hide (L1.out.below hc2)
          have A2 := hide (A1.out.below hc2)
          have W2 := hide (W1.out.trans (hc2.mono W1.out.size))
          clear L1 A1 W1 hc2
          go_wp2_with fail
          refine (lsameKeys q2 _ _ (kidsO o) (kidsO o) KO.out KO.out A2.out L2.out.K).mono ?_
          rintro e q3 ⟨rfl, hc3⟩
          rw [decide_eq_true (show kidsO o = kidsO o from rfl)]
          have L3 := hide (L2.out.below hc3)
          have W3 := hide (W2.out.trans (hc3.mono W2.out.size))
          clear L2 A2 W2 hc3
          go_wp2_with (first
            | ((with_reducible refine wpList_load_obj (.tmp 3) z3 (objL o u).toArray L3.out.C.blk (OZ.out u) ?_ ?_ ?_ ?_); rfl; rfl; rfl))
          refine (kids_any q3 o u (L3.out.F.rd OKo.out SZ.out.d) SZ.out).mono ?_
          rintro e q4 ⟨vl, rfl, hOl, hc4⟩
          have L4 := hide (L3.out.below hc4)
          have RL := hide (RowR_own hOl KO.out HNm.out)
          have W4 := hide (W3.out.trans (hc4.mono W3.out.size))
          clear L3 W3 hc4 hOl
          go_wp2_with fail
          refine (lsameKeys q4 _ _ (kidsO o) (kidsO o) KO.out KO.out RL.out L4.out.K).mono ?_
          rintro e q5 ⟨rfl, hc5⟩
          rw [decide_eq_true (show kidsO o = kidsO o from rfl)]
          have W5 := hide (W4.out.trans (hc5.mono W4.out.size))
          clear L4 RL W4 hc5
          go_wp2
          go_ret
          exact ⟨rfl, W5.out⟩
end Go.Proofs.Ytjcfndiceinkjaa
