/- Kids. -/
import Derived.Test.YtjcfndiceinkjabDoorYem
namespace Go.Proofs.YtjcfndiceinkjabDoor
set_option linter.unusedVariables false
set_option linter.unusedSimpArgs false
open Go.RowKit
theorem run_bs1 {op : Oper} {ev : Operand → Value} {x : Operand} {w : World} (k : List UInt8) (hk : okK k) (ho : op.op = .buildSlice 28 1 #[(0, x)]) (hx : ev x = keyV k) : (execOp ev op).run Tryd.prog w = .ok (.value (.slice (some ⟨w.heap.size, 0, none⟩) 1 1)) (w.alloc (.cells (keyC k).toArray 27)) := by
  simp only [execOp, ho]
  simp only [List.map_toArray, List.map_cons, List.map_nil, hx]
  obtain ⟨b0, b1, b2, b3, b4, b5, b6, b7, b8, b9, b10, b11, b12, b13, b14, b15, b16, b17, b18, b19, b20, b21, b22, b23, b24, b25, b26, b27, b28, b29, b30, b31, rfl⟩ := list32 k hk
  kernel_rfl
theorem wpList_bs1 {ops : Array Oper} {rest : List Oper} {op : Oper} {a : Act} {w : World} {Q : Exit → Act → World → Prop} (x : Operand) (k : List UInt8) (hk : okK k) (hg : Region.wanted op (yielded ops a.tmps) = true) (ho : op.op = .buildSlice 28 1 #[(0, x)]) (hx : a.eval x = keyV k)
    (h : wpList Tryd.prog ops Q rest (a.put op.dst (.slice (some ⟨w.heap.size, 0, none⟩) 1 1)) (w.alloc (.cells (keyC k).toArray 27))) : wpList Tryd.prog ops Q (op :: rest) a w :=
  wpList_runW _ _ hg (run_bs1 k hk ho hx) h
theorem row_one {w : World} {c : List Value} {t : TypeId} (hc : c.length = 32) : RowR (w.alloc (.cells c.toArray t)) (.slice (some ⟨w.heap.size, 0, none⟩) 1 1) 32 [c] := by
  have hB : Blk (w.alloc (.cells c.toArray t)) w.heap.size c.toArray t := Blk.made w _ _
  have hr : (w.alloc (.cells c.toArray t)).rangeAt w.heap.size 0 [c].flatten := by
    have := range_blk hB
    simpa using this
  exact ⟨_, 1, rfl, by simp, (fun e => nomatch e), .inr ⟨_, 0, rfl, rangeAt_each 32 [c] 0 (by simp [hc]) hr⟩⟩
def kidsO (o : ObjR) : List (List UInt8) := if o.kind = 2 then o.parts.map (·.1) else if o.kind = 3 then o.items.map (·.2.2.2) else if o.kind = 4 then o.tree :: o.parents else []
theorem kidsO_ok (o : ObjR) (ho : ObjOk o) : ∀ k ∈ kidsO o, okK k := by
  intro k hk
  unfold kidsO at hk
  split at hk
  · obtain ⟨p, hp, rfl⟩ := List.mem_map.1 hk; exact ho.p p hp
  split at hk
  · obtain ⟨p, hp, rfl⟩ := List.mem_map.1 hk; exact ho.i p hp
  split at hk
  · rcases List.mem_cons.1 hk with rfl | hk
    · exact ho.t
    · exact ho.k k hk
  · cases hk
def flatK (L : List (List UInt8)) : List Value := (L.map keyC).flatten
def KidsC (w : World) (o : ObjR) (e : Ending) (w' : World) : Prop := ∃ v', e = .returned v' ∧ w'.ownsRow w.heap.size 27 32 v' (kidsO o).length (flatK (kidsO o)) ∧ Below w.heap.size w w'
theorem flatK_succ (L : List (List UInt8)) (k : Nat) (h : k < L.length) : flatK (L.take (k + 1)) = flatK (L.take k) ++ [keyC L[k]].flatten := by
  unfold flatK
  rw [List.take_succ_eq_append_getElem h, List.map_append, List.flatten_append]
  rfl
theorem ownsRow_base {w : World} {base base' n k : Nat} {v : Value} {xs : List Value} {e : TypeId} (h : w.ownsRow base e k v n xs) (hb : base' ≤ base) : w.ownsRow base' e k v n xs := by
  obtain ⟨h0, h1 | ⟨g, cap, cur, e1, hg, hr⟩⟩ := h
  · exact ⟨h0, .inl h1⟩
  · exact ⟨h0, .inr ⟨g, cap, cur, e1, Nat.le_trans hb hg, hr⟩⟩
theorem itemC_key {w : World} {b o : Nat} {i : ItemR} (h : w.rangeAt b o (itemC i)) : w.rangeAt b (o + 3) (keyC i.2.2.2) := by
  have e : itemC i = [.string ⟨i.1.toArray⟩, .int .u8 (i.2.1 : Int), .int .u64 (i.2.2.1 : Int)] ++ keyC i.2.2.2 := rfl
  rw [e] at h
  exact rangeAt_right h
theorem partC_key {w : World} {b o : Nat} {p : PartR} (h : w.rangeAt b o (partC p)) : w.rangeAt b o (keyC p.1) := rangeAt_left h
end Go.Proofs.YtjcfndiceinkjabDoor

/- Kids: kids_2. -/
namespace Go.Proofs.YtjcfndiceinkjabDoor
set_option linter.unusedVariables false
set_option linter.unusedSimpArgs false
open Go.RowKit

set_option maxRecDepth 20000 in
set_option maxHeartbeats 4000000 in
theorem kids_2 (w : World) (o : ObjR) (v : ObjV) (hr : ObjRd w o v) (hs : ObjSz o) (hkd : o.kind = 2) : Calls Tryd.prog 10 #[.agg (objL o v).toArray] w (KidsC w o) := by
  have HE : Hid (kidsO o = o.parts.map (·.1)) := hide (by unfold kidsO; rw [if_pos hkd])
  have hA0 : ObjAt (w.alloc (.cells (objL o v).toArray 30)) w.heap.size o v := Blk.made w _ _
  have HA := hide hA0
  have HW := hide (below_alloc w (.cells (objL o v).toArray 30))
  have OKo := hide hr.ok
  have RR := hide hr
  have SZ := hide hs
  have cK := hA0.cKind
  have hb2 : ((o.kind : Int) == 2) = true := by simp; omega
  have hb3 : ((o.kind : Int) == 3) = false := by simp; omega
  have hb4 : ((o.kind : Int) == 4) = false := by simp; omega
  obtain ⟨ao, c, ev, hl⟩ := hr.p.slice
  rw [List.length_map] at ev hl
  obtain ⟨n, hn⟩ : ∃ n, n = o.parts.length := ⟨_, rfl⟩
  rw [← hn] at ev hl
  have HN := hide hn
  have EV := hide ev
  have hz0 := zero_part
  have c2 := hA0.cP
  rw [ev] at c2
  have hnb : (n + 2) * 40 ≤ 140737488355328 := by rw [hn]; exact hs.p
  clear hA0 hr hs hn ev hkd
  go_enter Tryd.func10, Tryd.ntmps10
  go_wp2
  clear cK c2 hb2 hb3 hb4
  go_loopw [3, 15] (fun s3 sk wr => ∃ (k : Nat) (va : Value), va = s3 ∧ sk = .int .i64 k ∧ k ≤ n ∧ wr.ownsRow (w.heap.size + 1) 27 32 va k (flatK ((o.parts.map (·.1)).take k)) ∧ ObjAt wr w.heap.size o v ∧ Below w.heap.size w wr) (fun _ sk _ => n - (intOf sk).toNat)
  case atStart => exact ⟨0, .slice none 0 0, rfl, rfl, by omega, World.ownsRow_nil _ _ _ _, HA.out, HW.out⟩
  case round =>
    obtain ⟨k, va, hva, rfl, hk, hO, hAw, hWw⟩ := hrel
    have HO := hide hO
    have HAw := hide hAw
    have HWw := hide hWw
    have e1 := hAw.cP
    rw [EV.out] at e1
    clear HA HW
    by_cases hlt : k < n
    · have hki : (k : Int) < (n : Int) := by omega
      have k1 : k < o.parts.length := by rw [← HN.out]; exact hlt
      obtain ⟨b, s, d, f1, r1⟩ := RR.out.p.at k (by rw [List.length_map]; exact k1)
      obtain ⟨g1, -, -⟩ := slice_of EV.out f1
      subst g1
      rw [List.getElem_map] at r1
      obtain ⟨p, hp⟩ : ∃ p, p = o.parts[k] := ⟨_, rfl⟩
      have op : okP p := by rw [hp]; exact OKo.out.p _ (List.getElem_mem _)
      rw [← hp] at r1
      have R1 := hide (rangeAt_below r1 hWw)
      have OPp := hide op
      have OKk : Hid (okK p.1) := hide op
      have OKl : Hid (p.1.length = 32) := hide op
      have HFl : Hid (flatK ((o.parts.map (·.1)).take (k + 1)) = flatK ((o.parts.map (·.1)).take k) ++ [keyC p.1].flatten) := hide (by
        rw [flatK_succ _ k (by rw [List.length_map]; exact k1), List.getElem_map, ← hp])
      have hsz : wr.heap.size ≥ w.heap.size + 1 := by have := Blk.lt hAw; omega
      have HSZ := hide hsz
      have LK : Hid (k + [keyC p.1].length ≤ 9223372036854775807) := hide (by show k + 1 ≤ _; omega)
      have BK : Hid ((k + [keyC p.1].length) * 32 ≤ 140737488355328) := hide (by show (k + 1) * 32 ≤ _; omega)
      have KL := hide (keyC_len _ OKk.out)
      clear hO hAw hWw r1 f1 hp op hsz
      have PS : Hid ((partC p).toArray.size = 33) := hide (by simp [partC_len p OPp.out])
      have ZS : Hid (zP.size = 33) := hide rfl
      have P1 := hide (all_oneCell_toArray (partC_one p))
      have ZB : Hid (Blk (wr.alloc (.cells zP 49)) wr.heap.size zP 49) := hide (Blk.made wr _ _)
      go_wp2_with (first
        | ((with_reducible refine wpList_load_partAt (.tmp 17) b (s + k * 33) p OPp.out R1.out ?_ ?_ ?_ ?_); rfl; rfl; rfl)
        | ((with_reducible refine wpList_store_blk ?_ 49 (.tmp 5) (.tmp 18) ?_ wr.heap.size 33 zP (partC p).toArray 49 PS.out ZS.out ?_ ?_ ZB.out infoPart P1.out ?_); rfl; rfl; rfl; rfl; intro w2 hk2 hg2; have RK : Hid (w2.rangeAt wr.heap.size (0) (p.1.map u8c)) := (hide (partC_key (range_blk (cs := (partC p).toArray) hk2))); have HB2 : Hid (Below wr.heap.size wr w2) := (hide ((below_alloc wr _).trans (below_grownBy hg2 (Nat.le_refl _) (below_alloc wr _).size))))
        | ((with_reducible refine wpList_load_keyAt (.tmp 20) wr.heap.size 0 p.1 OKl.out RK.out ?_ ?_ ?_ ?_); rfl; rfl; rfl)
        | ((with_reducible refine wpList_bs1 (.tmp 21) p.1 OKk.out ?_ ?_ ?_ ?_); rfl; rfl; rfl)
        | ((with_reducible refine wpList_append_row elemK ?_ (.tmp 19) (.tmp 22) ?_ (w.heap.size + 1) va (.slice (some ⟨w2.heap.size, 0, none⟩) 1 1) k (flatK ((o.parts.map (·.1)).take k)) [keyC p.1] ?_ (ownsRow_belowK HO.out (HB2.out.trans ((below_alloc w2 _).mono HB2.out.size))) ?_ (row_one KL.out) (by simp [KL.out]) (by simpa using keyC_one p.1) LK.out BK.out (Nat.le_trans HSZ.out (Nat.le_trans HB2.out.size (below_alloc w2 _).size)) ?_); rfl; rfl; exact hva.symm; rfl; intro v3 w3 O3 G3 E3))
      have hb3 : Below wr.heap.size wr (w2.alloc (.cells (keyC p.1).toArray 27)) := HB2.out.trans ((below_alloc w2 _).mono HB2.out.size)
      have hA3 := (HAw.out.below hb3)
      have hW3 := HWw.out.trans (hb3.mono HWw.out.size)
      have hne : ∀ g, va.ownBlock = some g → w.heap.size + 1 ≤ g := fun g hg => ownsRow_ltK HO.out g hg
      refine ⟨⟨k + 1, v3, rfl, by go_num, by omega, by rw [HFl.out]; exact O3.out, Blk.grown hA3 G3.out (fun e => by have := hne w.heap.size e.symm; omega), hW3.grown G3.out hW3.size (fun j hj => by have := hne j hj; omega)⟩, by simp [intOf]; omega⟩
    · have hki : ¬ (k : Int) < (n : Int) := by omega
      have HO2 : Hid (wr.ownsRow w.heap.size 27 32 va (kidsO o).length (flatK (kidsO o))) := hide (by
        have hkn : k = (kidsO o).length := by rw [HE.out, List.length_map, ← HN.out]; omega
        rw [HE.out]
        have := ownsRow_base HO.out (show w.heap.size ≤ w.heap.size + 1 by omega)
        rw [List.take_of_length_le (by rw [List.length_map, ← HN.out]; omega)] at this
        rw [HE.out] at hkn
        rw [← hkn]; exact this)
      clear hO hAw hWw HO
      subst hva
      go_wp2
      go_ret
      exact ⟨_, rfl, HO2.out, HWw.out⟩
end Go.Proofs.YtjcfndiceinkjabDoor

/- Kids: kids_3. -/
namespace Go.Proofs.YtjcfndiceinkjabDoor
set_option linter.unusedVariables false
set_option linter.unusedSimpArgs false
open Go.RowKit

set_option maxRecDepth 20000 in
set_option maxHeartbeats 4000000 in
theorem kids_3 (w : World) (o : ObjR) (v : ObjV) (hr : ObjRd w o v) (hs : ObjSz o) (hkd : o.kind = 3) : Calls Tryd.prog 10 #[.agg (objL o v).toArray] w (KidsC w o) := by
  have HE : Hid (kidsO o = o.items.map (·.2.2.2)) := hide (by unfold kidsO; rw [if_neg (by omega), if_pos hkd])
  have hA0 : ObjAt (w.alloc (.cells (objL o v).toArray 30)) w.heap.size o v := Blk.made w _ _
  have HA := hide hA0
  have HW := hide (below_alloc w (.cells (objL o v).toArray 30))
  have OKo := hide hr.ok
  have RR := hide hr
  have SZ := hide hs
  have cK := hA0.cKind
  have hb2 : ((o.kind : Int) == 2) = false := by simp; omega
  have hb3 : ((o.kind : Int) == 3) = true := by simp; omega
  have hb4 : ((o.kind : Int) == 4) = false := by simp; omega
  obtain ⟨ao, c, ev, hl⟩ := hr.i.slice
  rw [List.length_map] at ev hl
  obtain ⟨n, hn⟩ : ∃ n, n = o.items.length := ⟨_, rfl⟩
  rw [← hn] at ev hl
  have HN := hide hn
  have EV := hide ev
  have hz0 := zero_item
  have c2 := hA0.cI
  rw [ev] at c2
  have hnb : (n + 2) * 64 ≤ 140737488355328 := by rw [hn]; exact hs.i
  clear hA0 hr hs hn ev hkd
  go_enter Tryd.func10, Tryd.ntmps10
  go_wp2
  clear cK c2 hb2 hb3 hb4
  go_loopw [3, 30] (fun s3 sk wr => ∃ (k : Nat) (va : Value), va = s3 ∧ sk = .int .i64 k ∧ k ≤ n ∧ wr.ownsRow (w.heap.size + 1) 27 32 va k (flatK ((o.items.map (·.2.2.2)).take k)) ∧ ObjAt wr w.heap.size o v ∧ Below w.heap.size w wr) (fun _ sk _ => n - (intOf sk).toNat)
  case atStart => exact ⟨0, .slice none 0 0, rfl, rfl, by omega, World.ownsRow_nil _ _ _ _, HA.out, HW.out⟩
  case round =>
    obtain ⟨k, va, hva, rfl, hk, hO, hAw, hWw⟩ := hrel
    have HO := hide hO
    have HAw := hide hAw
    have HWw := hide hWw
    have e1 := hAw.cI
    rw [EV.out] at e1
    clear HA HW
    by_cases hlt : k < n
    · have hki : (k : Int) < (n : Int) := by omega
      have k1 : k < o.items.length := by rw [← HN.out]; exact hlt
      obtain ⟨b, s, d, f1, r1⟩ := RR.out.i.at k (by rw [List.length_map]; exact k1)
      obtain ⟨g1, -, -⟩ := slice_of EV.out f1
      subst g1
      rw [List.getElem_map] at r1
      obtain ⟨p, hp⟩ : ∃ p, p = o.items[k] := ⟨_, rfl⟩
      have op : okI p := by rw [hp]; exact OKo.out.i _ (List.getElem_mem _)
      rw [← hp] at r1
      have R1 := hide (rangeAt_below r1 hWw)
      have OPp := hide op
      have OKk : Hid (okK p.2.2.2) := hide op
      have OKl : Hid (p.2.2.2.length = 32) := hide op
      have HFl : Hid (flatK ((o.items.map (·.2.2.2)).take (k + 1)) = flatK ((o.items.map (·.2.2.2)).take k) ++ [keyC p.2.2.2].flatten) := hide (by
        rw [flatK_succ _ k (by rw [List.length_map]; exact k1), List.getElem_map, ← hp])
      have hsz : wr.heap.size ≥ w.heap.size + 1 := by have := Blk.lt hAw; omega
      have HSZ := hide hsz
      have LK : Hid (k + [keyC p.2.2.2].length ≤ 9223372036854775807) := hide (by show k + 1 ≤ _; omega)
      have BK : Hid ((k + [keyC p.2.2.2].length) * 32 ≤ 140737488355328) := hide (by show (k + 1) * 32 ≤ _; omega)
      have KL := hide (keyC_len _ OKk.out)
      clear hO hAw hWw r1 f1 hp op hsz
      have PS : Hid ((itemC p).toArray.size = 35) := hide (by simp [itemC_len p OPp.out])
      have ZS : Hid (zI.size = 35) := hide rfl
      have P1 := hide (all_oneCell_toArray (itemC_one p))
      have ZB : Hid (Blk (wr.alloc (.cells zI 52)) wr.heap.size zI 52) := hide (Blk.made wr _ _)
      go_wp2_with (first
        | ((with_reducible refine wpList_load_itemAt (.tmp 32) b (s + k * 35) p OPp.out R1.out ?_ ?_ ?_ ?_); rfl; rfl; rfl)
        | ((with_reducible refine wpList_store_blk ?_ 52 (.tmp 7) (.tmp 33) ?_ wr.heap.size 35 zI (itemC p).toArray 52 PS.out ZS.out ?_ ?_ ZB.out infoItem P1.out ?_); rfl; rfl; rfl; rfl; intro w2 hk2 hg2; have RK : Hid (w2.rangeAt wr.heap.size (3) (p.2.2.2.map u8c)) := (hide (itemC_key (o := 0) (range_blk (cs := (itemC p).toArray) hk2))); have HB2 : Hid (Below wr.heap.size wr w2) := (hide ((below_alloc wr _).trans (below_grownBy hg2 (Nat.le_refl _) (below_alloc wr _).size))))
        | ((with_reducible refine wpList_load_keyAt (.tmp 35) wr.heap.size 3 p.2.2.2 OKl.out RK.out ?_ ?_ ?_ ?_); rfl; rfl; rfl)
        | ((with_reducible refine wpList_bs1 (.tmp 36) p.2.2.2 OKk.out ?_ ?_ ?_ ?_); rfl; rfl; rfl)
        | ((with_reducible refine wpList_append_row elemK ?_ (.tmp 34) (.tmp 37) ?_ (w.heap.size + 1) va (.slice (some ⟨w2.heap.size, 0, none⟩) 1 1) k (flatK ((o.items.map (·.2.2.2)).take k)) [keyC p.2.2.2] ?_ (ownsRow_belowK HO.out (HB2.out.trans ((below_alloc w2 _).mono HB2.out.size))) ?_ (row_one KL.out) (by simp [KL.out]) (by simpa using keyC_one p.2.2.2) LK.out BK.out (Nat.le_trans HSZ.out (Nat.le_trans HB2.out.size (below_alloc w2 _).size)) ?_); rfl; rfl; exact hva.symm; rfl; intro v3 w3 O3 G3 E3))
      have hb3 : Below wr.heap.size wr (w2.alloc (.cells (keyC p.2.2.2).toArray 27)) := HB2.out.trans ((below_alloc w2 _).mono HB2.out.size)
      have hA3 := (HAw.out.below hb3)
      have hW3 := HWw.out.trans (hb3.mono HWw.out.size)
      have hne : ∀ g, va.ownBlock = some g → w.heap.size + 1 ≤ g := fun g hg => ownsRow_ltK HO.out g hg
      refine ⟨⟨k + 1, v3, rfl, by go_num, by omega, by rw [HFl.out]; exact O3.out, Blk.grown hA3 G3.out (fun e => by have := hne w.heap.size e.symm; omega), hW3.grown G3.out hW3.size (fun j hj => by have := hne j hj; omega)⟩, by simp [intOf]; omega⟩
    · have hki : ¬ (k : Int) < (n : Int) := by omega
      have HO2 : Hid (wr.ownsRow w.heap.size 27 32 va (kidsO o).length (flatK (kidsO o))) := hide (by
        have hkn : k = (kidsO o).length := by rw [HE.out, List.length_map, ← HN.out]; omega
        rw [HE.out]
        have := ownsRow_base HO.out (show w.heap.size ≤ w.heap.size + 1 by omega)
        rw [List.take_of_length_le (by rw [List.length_map, ← HN.out]; omega)] at this
        rw [HE.out] at hkn
        rw [← hkn]; exact this)
      clear hO hAw hWw HO
      subst hva
      go_wp2
      go_ret
      exact ⟨_, rfl, HO2.out, HWw.out⟩
end Go.Proofs.YtjcfndiceinkjabDoor

/- Kids: kids_n, rkids_n, kids_4, rkids_4. -/
namespace Go.Proofs.YtjcfndiceinkjabDoor
set_option linter.unusedVariables false
set_option linter.unusedSimpArgs false
open Go.RowKit

set_option maxRecDepth 20000 in
set_option maxHeartbeats 4000000 in
theorem kids_n (w : World) (o : ObjR) (v : ObjV) (hr : ObjRd w o v) (hs : ObjSz o) (hn2 : ¬ o.kind = 2) (hn3 : ¬ o.kind = 3) (hn4 : ¬ o.kind = 4) : Calls Tryd.prog 10 #[.agg (objL o v).toArray] w (KidsC w o) := by
  have HE : Hid (kidsO o = []) := hide (by unfold kidsO; rw [if_neg hn2, if_neg hn3, if_neg hn4])
  have hA0 : ObjAt (w.alloc (.cells (objL o v).toArray 30)) w.heap.size o v := Blk.made w _ _
  have HA := hide hA0
  have HW := hide (below_alloc w (.cells (objL o v).toArray 30))
  have OKo := hide hr.ok
  have RR := hide hr
  have SZ := hide hs
  have cK := hA0.cKind
  have hb2 : ((o.kind : Int) == 2) = false := by simp; omega
  have hb3 : ((o.kind : Int) == 3) = false := by simp; omega
  have hb4 : ((o.kind : Int) == 4) = false := by simp; omega
  clear hA0 hr hs
  go_enter Tryd.func10, Tryd.ntmps10
  go_wp2
  go_ret
  exact ⟨_, rfl, by rw [HE.out]; exact World.ownsRow_nil _ _ _ _, HW.out⟩
set_option maxRecDepth 20000 in
set_option maxHeartbeats 4000000 in
theorem kids_4 (w : World) (o : ObjR) (v : ObjV) (hr : ObjRd w o v) (hs : ObjSz o) (hkd : o.kind = 4) : Calls Tryd.prog 10 #[.agg (objL o v).toArray] w (KidsC w o) := by
  have HE : Hid (kidsO o = o.tree :: o.parents) := hide (by unfold kidsO; rw [if_neg (by omega), if_neg (by omega), if_pos hkd])
  have hA0 : ObjAt (w.alloc (.cells (objL o v).toArray 30)) w.heap.size o v := Blk.made w _ _
  have HA := hide hA0
  have HW := hide (below_alloc w (.cells (objL o v).toArray 30))
  have OKo := hide hr.ok
  have RR := hide hr
  have SZ := hide hs
  have cK := hA0.cKind
  have hb2 : ((o.kind : Int) == 2) = false := by simp; omega
  have hb3 : ((o.kind : Int) == 3) = false := by simp; omega
  have hb4 : ((o.kind : Int) == 4) = true := by simp; omega
  have cKs := hA0.cK hr.ok.t
  have OKt : Hid (okK o.tree) := hide hr.ok.t
  have KL := hide (keyC_len _ hr.ok.t)
  have TRE := hide hA0.tree
  have LK : Hid (0 + [keyC o.tree].length ≤ 9223372036854775807) := hide (by show 0 + 1 ≤ _; decide)
  have BK : Hid ((0 + [keyC o.tree].length) * 32 ≤ 140737488355328) := hide (by show (0 + 1) * 32 ≤ _; decide)
  have LP : Hid (0 + [keyC o.tree].length + (o.parents.map keyC).length ≤ 9223372036854775807) := hide (by rw [List.length_map]; have := hs.k; show 0 + 1 + _ ≤ _; omega)
  have BP : Hid ((0 + [keyC o.tree].length + (o.parents.map keyC).length) * 32 ≤ 140737488355328) := hide (by rw [List.length_map]; have := hs.k; show (0 + 1 + _) * 32 ≤ _; omega)
  clear hA0 hr hs hkd
  go_enter Tryd.func10, Tryd.ntmps10
  go_wp2_with (first
    | ((with_reducible refine wpList_load_keyAt (.tmp 43) w.heap.size 4 o.tree OKo.out.t TRE.out ?_ ?_ ?_ ?_); rfl; rfl; rfl)
    | ((with_reducible refine wpList_bs1 (.tmp 44) o.tree OKt.out ?_ ?_ ?_ ?_); rfl; rfl; rfl)
    | ((with_reducible refine wpList_append_row elemK ?_ (.tmp 42) (.tmp 45) ?_ (w.heap.size + 1) (.slice none 0 0) (.slice (some ⟨(w.alloc (.cells (objL o v).toArray 30)).heap.size, 0, none⟩) 1 1) 0 [] [keyC o.tree] ?_ (World.ownsRow_nil _ _ _ _) ?_ (row_one KL.out) (by simp [KL.out]) (by simpa using keyC_one o.tree) LK.out BK.out (by simp) ?_); rfl; rfl; rfl; rfl; intro v3 w3 O3 G3 E3; generalize hG : wpList _ _ _ _ _ _ = G))
  have hb3 : Below (w.heap.size + 1) (w.alloc (.cells (objL o v).toArray 30)) w3 := by
    have h1 := below_alloc (w.alloc (.cells (objL o v).toArray 30)) (.cells (keyC o.tree).toArray 27)
    have h2 := h1.trans ((below_none G3.out).mono h1.size)
    rwa [show (w.alloc (.cells (objL o v).toArray 30)).heap.size = w.heap.size + 1 by simp] at h2
  have hb3' : Below (w.alloc (.cells (objL o v).toArray 30)).heap.size (w.alloc (.cells (objL o v).toArray 30)) w3 := by
    rw [show (w.alloc (.cells (objL o v).toArray 30)).heap.size = w.heap.size + 1 by simp]; exact hb3
  have HA3 := hide (HA.out.below hb3')
  have HW3 := hide (HW.out.trans (hb3'.mono HW.out.size))
  have HR3 := hide (RR.out.k.below HW3.out)
  have c3 := HA3.out.cK OKo.out.t
  have HSZ : Hid (w.heap.size + 1 ≤ w3.heap.size) := hide (by have := hb3'.size; simpa using this)
  clear hb3 hb3' HA HW cK cKs G3 E3 TRE
  subst hG
  go_wp2_with (first
    | ((with_reducible refine wpList_append_row elemK ?_ (.tmp 47) (.tmp 49) ?_ (w.heap.size + 1) v3 v.k (0 + [keyC o.tree].length) ([] ++ [keyC o.tree].flatten) (o.parents.map keyC) ?_ O3.out ?_ HR3.out (keysC_len o OKo.out) (keysC_one o) LP.out BP.out HSZ.out ?_); rfl; rfl; rfl; rfl; intro v4 w4 O4 G4 E4))
  go_ret
  refine ⟨_, rfl, ?_, HW3.out.grown G4.out HW3.out.size (fun j hj => by have := ownsRow_ltK O3.out j hj; omega)⟩
  rw [HE.out]
  have := ownsRow_base O4.out (show w.heap.size ≤ w.heap.size + 1 by omega)
  unfold flatK
  simpa [Nat.add_comm] using this
end Go.Proofs.YtjcfndiceinkjabDoor

/- Kids, both ways. -/
namespace Go.Proofs.YtjcfndiceinkjabDoor
set_option linter.unusedVariables false
set_option linter.unusedSimpArgs false
open Go.RowKit

theorem kids_any (w : World) (o : ObjR) (v : ObjV) (hr : ObjRd w o v) (hs : ObjSz o) : Calls Tryd.prog 10 #[.agg (objL o v).toArray] w (KidsC w o) := by
  by_cases h2 : o.kind = 2
  · exact kids_2 w o v hr hs h2
  by_cases h3 : o.kind = 3
  · exact kids_3 w o v hr hs h3
  by_cases h4 : o.kind = 4
  · exact kids_4 w o v hr hs h4
  · exact kids_n w o v hr hs h2 h3 h4
end Go.Proofs.YtjcfndiceinkjabDoor

/- Two rows of keys held against one another by the law. -/
namespace Go.Proofs.YtjcfndiceinkjabDoor
set_option linter.unusedVariables false
set_option linter.unusedSimpArgs false
open Go.RowKit

set_option maxRecDepth 20000 in
set_option maxHeartbeats 1000000 in
theorem lsameKeys (w : World) (v1 v2 : Value) (L1 L2 : List (List UInt8)) (o1 : ∀ p ∈ L1, okK p) (o2 : ∀ p ∈ L2, okK p) (h1 : RowR w v1 32 (L1.map keyC)) (h2 : RowR w v2 32 (L2.map keyC)) : Calls Tryd.prog 9 #[v1, v2] w fun e w' => e = .returned (.bool (decide (L1 = L2))) ∧ Below w.heap.size w w' := by
  have H1 := hide h1
  have H2 := hide h2
  obtain ⟨a1, c1, rfl, hl1⟩ := h1.slice
  obtain ⟨a2, c2, rfl, hl2⟩ := h2.slice
  rw [List.length_map] at hl1 hl2 H1 H2 ⊢
  rw [List.length_map]
  obtain ⟨n, hn⟩ : ∃ n, n = L1.length := ⟨_, rfl⟩
  obtain ⟨m, hm⟩ : ∃ m, m = L2.length := ⟨_, rfl⟩
  rw [← hn] at H1 hl1 ⊢
  rw [← hm] at H2 hl2 ⊢
  have HN := hide hn
  have HM := hide hm
  clear h1 h2 hn hm
  by_cases hnm : n = m
  · subst hnm
    go_enter Tryd.func9, Tryd.ntmps9
    go_wp2
    go_loopw [5] (fun t wr => ∃ k : Nat, t = .int .i64 k ∧ k ≤ n ∧ L1.take k = L2.take k ∧ Below w.heap.size w wr) (fun t _ => n - (intOf t).toNat)
    case atStart => exact ⟨0, rfl, by omega, rfl, Below.refl _ _⟩
    case round =>
      obtain ⟨k, rfl, hk, ht, hW⟩ := hrel
      have HT := hide ht
      clear ht
      by_cases hlt : k < n
      · have hki : (k : Int) < (n : Int) := by omega
        have k1 : k < L1.length := by rw [← HN.out]; exact hlt
        have k2 : k < L2.length := by rw [← HM.out]; exact hlt
        obtain ⟨b1, s1, d1, e1, r1⟩ := H1.out.at k (by rw [List.length_map]; exact k1)
        obtain ⟨b2, s2, d2, e2, r2⟩ := H2.out.at k (by rw [List.length_map]; exact k2)
        obtain ⟨rfl, -, -⟩ := (Value.slice.injEq ..).mp e1
        obtain ⟨rfl, -, -⟩ := (Value.slice.injEq ..).mp e2
        rw [List.getElem_map] at r1 r2
        obtain ⟨p, hp⟩ : ∃ p, p = L1[k] := ⟨_, rfl⟩
        obtain ⟨q, hq⟩ : ∃ q, q = L2[k] := ⟨_, rfl⟩
        have op : okK p := by rw [hp]; exact o1 _ (List.getElem_mem _)
        have oq : okK q := by rw [hq]; exact o2 _ (List.getElem_mem _)
        rw [← hp] at r1
        rw [← hq] at r2
        have R1 := hide (loadAt_key op (rangeAt_below r1 hW.drew))
        have R2 := hide (loadAt_key oq (rangeAt_below r2 hW.drew))
        have HP := hide hp
        have HQ := hide hq
        have hg := keysGuard .neq p q
        have hne := keysNeq p q op oq
        clear r1 r2 e1 e2 hp hq op oq
        by_cases hpq : p = q
        · have hd : decide (p = q) = true := decide_eq_true hpq
          have HT2 : Hid (L1.take (k + 1) = L2.take (k + 1)) := hide (by
            rw [List.take_succ_eq_append_getElem k1, List.take_succ_eq_append_getElem k2, HT.out, ← HP.out, ← HQ.out, hpq])
          rw [hd] at hne
          clear hpq hd
          go_wp2
          refine wp_region_still_lit (by kernel_rfl) (by kernel_rfl) ?_
          still_step
          still_step
          still_step
          refine wpStill_val (keyV p) rfl (run_load rfl rfl R1.out) ?_
          still_step
          still_step
          still_step
          refine wpStill_val (keyV q) rfl (run_load rfl rfl R2.out) ?_
          still_step
          refine wpStill_nil ?_
          go_wp2
          exact ⟨⟨k + 1, by go_num, by omega, HT2.out, hW.drew⟩, by simp [intOf]; omega⟩
        · have hd : decide (p = q) = false := decide_eq_false hpq
          have HE : Hid (decide (L1 = L2) = false) := hide (decide_eq_false (fun e => hpq (by rw [HP.out, HQ.out]; subst e; rfl)))
          rw [hd] at hne
          clear hpq hd
          go_wp2
          refine wp_region_still_lit (by kernel_rfl) (by kernel_rfl) ?_
          still_step
          still_step
          still_step
          refine wpStill_val (keyV p) rfl (run_load rfl rfl R1.out) ?_
          still_step
          still_step
          still_step
          refine wpStill_val (keyV q) rfl (run_load rfl rfl R2.out) ?_
          still_step
          refine wpStill_nil ?_
          go_wp2
          go_ret
          exact ⟨by rw [HE.out]; rfl, hW.drew⟩
      · have hki : ¬ (k : Int) < (n : Int) := by omega
        have HE : Hid (decide (L1 = L2) = true) := hide (decide_eq_true (by
          have := HT.out
          rwa [List.take_of_length_le (by rw [← HN.out]; omega), List.take_of_length_le (by rw [← HM.out]; omega)] at this))
        go_wp2
        go_ret
        exact ⟨by rw [HE.out]; rfl, hW⟩
  · have hne : ((n : Int) == (m : Int)) = false := by simp; omega
    have HE : Hid (decide (L1 = L2) = false) := hide (decide_eq_false (fun e => hnm (by rw [HN.out, HM.out, e])))
    go_enter Tryd.func9, Tryd.ntmps9
    go_wp2
    go_ret
    exact ⟨by rw [HE.out]; rfl, Below.refl _ _⟩
end Go.Proofs.YtjcfndiceinkjabDoor
