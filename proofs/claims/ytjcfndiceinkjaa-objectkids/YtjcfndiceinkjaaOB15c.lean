/- Kids: kids_3. -/
import Derived.Test.YtjcfndiceinkjaaOB15a
namespace Go.Proofs.Ytjcfndiceinkjaa
set_option linter.unusedVariables false
set_option linter.unusedSimpArgs false
open Go.RowKit

set_option maxRecDepth 20000 in
set_option maxHeartbeats 4000000 in
theorem kids_3 (w : World) (o : ObjR) (v : ObjV) (hr : ObjRd w o v) (hs : ObjSz o) (hkd : o.kind = 3) : Calls Try.prog 7 #[.agg (objL o v).toArray] w (KidsC w o) := by
  have HE : Hid (kidsO o = o.items.map (·.2.2.2)) := hide (by unfold kidsO; rw [if_neg (by omega), if_pos hkd])
  have hA0 : ObjAt (w.alloc (.cells (objL o v).toArray 30)) w.heap.size o v := Blk.made w _ _
  have HA := hide hA0
  have HW := hide (below_alloc w (.cells (objL o v).toArray 30))
  have OKo := hide hr.ok
  have RR := hide hr
  have SZ := hide hs
  have cK := hA0.cKind
  have hb2 : ((o.kind : Int) == 2) = false := by simp; omega
  have hb3 : ((o.kind : Int) == 3) = true := by simp; omega
  have hb4 : ((o.kind : Int) == 4) = false := by simp; omega
  obtain ⟨ao, c, ev, hl⟩ := hr.i.slice
  rw [List.length_map] at ev hl
  obtain ⟨n, hn⟩ : ∃ n, n = o.items.length := ⟨_, rfl⟩
  rw [← hn] at ev hl
  have HN := hide hn
  have EV := hide ev
  have hz0 := zero_item
  have c2 := hA0.cI
  rw [ev] at c2
  have hnb : (n + 2) * 64 ≤ 140737488355328 := by rw [hn]; exact hs.i
  clear hA0 hr hs hn ev hkd
  go_enter Try.func7, Try.ntmps7
  go_wp2
  clear cK c2 hb2 hb3 hb4
  go_loopw [3, 30] (fun s3 sk wr => ∃ (k : Nat) (va : Value), va = s3 ∧ sk = .int .i64 k ∧ k ≤ n ∧ wr.ownsRow (w.heap.size + 1) 27 32 va k (flatK ((o.items.map (·.2.2.2)).take k)) ∧ ObjAt wr w.heap.size o v ∧ Below w.heap.size w wr) (fun _ sk _ => n - (intOf sk).toNat)
  case atStart => exact ⟨0, .slice none 0 0, rfl, rfl, by omega, World.ownsRow_nil _ _ _ _, HA.out, HW.out⟩
  case round =>
    obtain ⟨k, va, hva, rfl, hk, hO, hAw, hWw⟩ := hrel
    have HO := hide hO
    have HAw := hide hAw
    have HWw := hide hWw
    have e1 := hAw.cI
    rw [EV.out] at e1
    clear HA HW
    by_cases hlt : k < n
    · have hki : (k : Int) < (n : Int) := by omega
      have k1 : k < o.items.length := by rw [← HN.out]; exact hlt
      obtain ⟨b, s, d, f1, r1⟩ := RR.out.i.at k (by rw [List.length_map]; exact k1)
      obtain ⟨g1, -, -⟩ := slice_of EV.out f1
      subst g1
      rw [List.getElem_map] at r1
      obtain ⟨p, hp⟩ : ∃ p, p = o.items[k] := ⟨_, rfl⟩
      have op : okI p := by rw [hp]; exact OKo.out.i _ (List.getElem_mem _)
      rw [← hp] at r1
      have R1 := hide (rangeAt_below r1 hWw)
      have OPp := hide op
      have OKk : Hid (okK p.2.2.2) := hide op
      have OKl : Hid (p.2.2.2.length = 32) := hide op
      have HFl : Hid (flatK ((o.items.map (·.2.2.2)).take (k + 1)) = flatK ((o.items.map (·.2.2.2)).take k) ++ [keyC p.2.2.2].flatten) := hide (by
        rw [flatK_succ _ k (by rw [List.length_map]; exact k1), List.getElem_map, ← hp])
      have hsz : wr.heap.size ≥ w.heap.size + 1 := by have := Blk.lt hAw; omega
      have HSZ := hide hsz
      have LK : Hid (k + [keyC p.2.2.2].length ≤ 9223372036854775807) := hide (by show k + 1 ≤ _; omega)
      have BK : Hid ((k + [keyC p.2.2.2].length) * 32 ≤ 140737488355328) := hide (by show (k + 1) * 32 ≤ _; omega)
      have KL := hide (keyC_len _ OKk.out)
      clear hO hAw hWw r1 f1 hp op hsz
      have PS : Hid ((itemC p).toArray.size = 35) := hide (by simp [itemC_len p OPp.out])
      have ZS : Hid (zI.size = 35) := hide rfl
      have P1 := hide (all_oneCell_toArray (itemC_one p))
      have ZB : Hid (Blk (wr.alloc (.cells zI 42)) wr.heap.size zI 42) := hide (Blk.made wr _ _)
      go_wp2_with (first
        | ((with_reducible refine wpList_load_itemAt (.tmp 32) b (s + k * 35) p OPp.out R1.out ?_ ?_ ?_ ?_); rfl; rfl; rfl)
        | ((with_reducible refine wpList_store_blk ?_ 42 (.tmp 7) (.tmp 33) ?_ wr.heap.size 35 zI (itemC p).toArray 42 PS.out ZS.out ?_ ?_ ZB.out infoItem P1.out ?_); rfl; rfl; rfl; rfl; intro w2 hk2 hg2; have RK : Hid (w2.rangeAt wr.heap.size (3) (p.2.2.2.map u8c)) := (hide (itemC_key (o := 0) (range_blk (cs := (itemC p).toArray) hk2))); have HB2 : Hid (Below wr.heap.size wr w2) := (hide ((below_alloc wr _).trans (below_grownBy hg2 (Nat.le_refl _) (below_alloc wr _).size))))
        | ((with_reducible refine wpList_load_keyAt (.tmp 35) wr.heap.size 3 p.2.2.2 OKl.out RK.out ?_ ?_ ?_ ?_); rfl; rfl; rfl)
        | ((with_reducible refine wpList_bs1 (.tmp 36) p.2.2.2 OKk.out ?_ ?_ ?_ ?_); rfl; rfl; rfl)
        | ((with_reducible refine wpList_append_row elemK ?_ (.tmp 34) (.tmp 37) ?_ (w.heap.size + 1) va (.slice (some ⟨w2.heap.size, 0, none⟩) 1 1) k (flatK ((o.items.map (·.2.2.2)).take k)) [keyC p.2.2.2] ?_ (ownsRow_belowK HO.out (HB2.out.trans ((below_alloc w2 _).mono HB2.out.size))) ?_ (row_one KL.out) (by simp [KL.out]) (by simpa using keyC_one p.2.2.2) LK.out BK.out (Nat.le_trans HSZ.out (Nat.le_trans HB2.out.size (below_alloc w2 _).size)) ?_); rfl; rfl; exact hva.symm; rfl; intro v3 w3 O3 G3 E3))
      have hb3 : Below wr.heap.size wr (w2.alloc (.cells (keyC p.2.2.2).toArray 27)) := HB2.out.trans ((below_alloc w2 _).mono HB2.out.size)
      have hA3 := (HAw.out.below hb3)
      have hW3 := HWw.out.trans (hb3.mono HWw.out.size)
      have hne : ∀ g, va.ownBlock = some g → w.heap.size + 1 ≤ g := fun g hg => ownsRow_ltK HO.out g hg
      refine ⟨⟨k + 1, v3, rfl, by go_num, by omega, by rw [HFl.out]; exact O3.out, Blk.grown hA3 G3.out (fun e => by have := hne w.heap.size e.symm; omega), hW3.grown G3.out hW3.size (fun j hj => by have := hne j hj; omega)⟩, by simp [intOf]; omega⟩
    · have hki : ¬ (k : Int) < (n : Int) := by omega
      have HO2 : Hid (wr.ownsRow w.heap.size 27 32 va (kidsO o).length (flatK (kidsO o))) := hide (by
        have hkn : k = (kidsO o).length := by rw [HE.out, List.length_map, ← HN.out]; omega
        rw [HE.out]
        have := ownsRow_base HO.out (show w.heap.size ≤ w.heap.size + 1 by omega)
        rw [List.take_of_length_le (by rw [List.length_map, ← HN.out]; omega)] at this
        rw [HE.out] at hkn
        rw [← hkn]; exact this)
      clear hO hAw hWw HO
      subst hva
      go_wp2
      go_ret
      exact ⟨_, rfl, HO2.out, HWw.out⟩
end Go.Proofs.Ytjcfndiceinkjaa
