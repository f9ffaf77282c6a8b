/- Of trees, why they may not be. -/
import Derived.Test.YtjcfndiceinkjaaDoorOC3
namespace Go.Proofs.YtjcfndiceinkjaaDoor
set_option linter.unusedVariables false
set_option linter.unusedSimpArgs false
open Go.RowKit

def badMode (m s : Nat) : Bool := !(decide (1 ≤ m) && decide (m ≤ 4)) || (decide (m = 3) && !decide (s = 0))
/-- Item by item, behind the name that stands ahead. -/
def treeL : List ItemR → List UInt8 → Int
  | [], _ => 0
  | i :: L, ahead => if nameL i.1 = false then 43 else if (Op.bytesLess i.1 ahead || i.1 == ahead) = true then 44 else if badMode i.2.1 i.2.2.1 = true then 45 else treeL L i.1
def wrongTreeO (L : List ItemR) : Int := if 128 < L.length then 42 else treeL L []
def zI : Array Value := (itemC ([], 0, 0, zero32)).toArray
theorem zero_item (W : World) : (zeroValue 50).run Tryd.prog W = .ok (.agg zI) W := by kernel_rfl
theorem itemC_name {w : World} {b : Nat} {i : ItemR} {t : TypeId} (h : Blk w b (itemC i).toArray t) : w.cell? ⟨b, 0, none⟩ = some (.string ⟨i.1.toArray⟩) ∧ w.cell? ⟨b, 1, none⟩ = some (.int .u8 (i.2.1 : Int)) ∧ w.cell? ⟨b, 2, none⟩ = some (.int .u64 (i.2.2.1 : Int)) := by
  refine ⟨?_, ?_, ?_⟩ <;> (rw [h.cell]; rfl)
set_option maxRecDepth 20000 in
set_option maxHeartbeats 2000000 in
theorem wrongTree_any (w : World) (hT8 : Tabs8 w) (v : Value) (L : List ItemR) (ok : ∀ p ∈ L, okI p) (hv : RowR w v 35 (L.map itemC)) : Calls Tryd.prog 77 #[v] w (ErrC w (wrongTreeO L)) := by
  have HV := hide hv
  have H8 := hide hT8
  obtain ⟨ao, c, ev, hpl⟩ := hv.slice
  rw [List.length_map] at hpl ev
  have EV := hide ev
  rw [ev]
  obtain ⟨n, hn⟩ : ∃ n, n = L.length := ⟨_, rfl⟩
  rw [← hn] at hpl EV ⊢
  have HN := hide hn
  have hz0 := zero_item
  clear hv ev hn hT8
  by_cases h1 : 128 < n
  · have a1 : (128 : Int) < (n : Int) := by omega
    have HF : Hid (wrongTreeO L = 42) := hide (by unfold wrongTreeO; rw [← HN.out, if_pos h1])
    go_enter Tryd.func77, Tryd.ntmps77
    go_wp2
    go_ret
    exact ⟨by rw [HF.out]; rfl, Below.refl _ _⟩
  have a1 : ¬ (128 : Int) < (n : Int) := by omega
  have HF : Hid (wrongTreeO L = treeL L []) := hide (by unfold wrongTreeO; rw [← HN.out, if_neg h1])
  go_enter Tryd.func77, Tryd.ntmps77
  go_wp2
  go_loopw [3, 11] (fun s3 s11 wr => ∃ (k : Nat) (ahead : List UInt8), s3 = .string ⟨ahead.toArray⟩ ∧ s11 = .int .i64 k ∧ k ≤ n ∧ treeL (L.drop k) ahead = wrongTreeO L ∧ Below w.heap.size w wr) (fun _ s11 _ => n - (intOf s11).toNat)
  case atStart => exact ⟨0, [], rfl, rfl, by omega, HF.out.symm, Below.refl _ _⟩
  case round =>
    obtain ⟨k, ahead, rfl, rfl, hk, ht, hW⟩ := hrel
    have HTt := hide ht
    have HW := hide hW
    clear ht
    by_cases hlt : k < n
    · have hki : (k : Int) < (n : Int) := by omega
      have k1 : k < L.length := by rw [← HN.out]; exact hlt
      obtain ⟨b, s, d, f1, r1⟩ := HV.out.at k (by rw [List.length_map]; exact k1)
      obtain ⟨g1, -, -⟩ := slice_of EV.out f1
      subst g1
      rw [List.getElem_map] at r1
      obtain ⟨p, hp⟩ : ∃ p, p = L[k] := ⟨_, rfl⟩
      have op : okI p := by rw [hp]; exact ok _ (List.getElem_mem _)
      rw [← hp] at r1
      have R1 := hide (rangeAt_below r1 hW)
      have OPp := hide op
      have HS : Hid (treeL (L.drop k) ahead = if nameL p.1 = false then 43 else if (Op.bytesLess p.1 ahead || p.1 == ahead) = true then 44 else if badMode p.2.1 p.2.2.1 = true then 45 else treeL (L.drop (k + 1)) p.1) := hide (by rw [drop_cons L k k1, ← hp]; rfl)
      rw [HTt.out] at HS
      have PS : Hid ((itemC p).toArray.size = 35) := hide (by simp [itemC_len p OPp.out])
      have ZS : Hid (zI.size = 35) := hide rfl
      have P1 := hide (all_oneCell_toArray (itemC_one p))
      have ZB : Hid (Blk (wr.alloc (.cells zI 50)) wr.heap.size zI 50) := hide (Blk.made wr _ _)
      clear r1 f1 hp op hW
      go_wp2_with (first
        | ((with_reducible refine wpList_load_itemAt (.tmp 13) b (s + k * 35) p OPp.out R1.out ?_ ?_ ?_ ?_); rfl; rfl; rfl)
        | ((with_reducible refine wpList_store_blk ?_ 50 (.tmp 5) (.tmp 14) ?_ wr.heap.size 35 zI (itemC p).toArray 50 PS.out ZS.out ?_ ?_ ZB.out infoItem P1.out ?_); rfl; rfl; rfl; rfl; intro w2 hk2 hg2; have c0 := (itemC_name hk2).1))
      have HB2 : Hid (Below wr.heap.size wr w2) := hide ((below_alloc wr _).trans (below_grownBy hg2 (Nat.le_refl _) (below_alloc wr _).size))
      have HW2 := hide (HW.out.trans (HB2.out.mono HW.out.size))
      have HK2 := hide hk2
      clear hk2 hg2 HB2 c0
      refine (isName_all p.1 w2 (H8.out.below HW2.out)).mono ?_
      rintro e w3 ⟨rfl, hb3⟩
      have HW3 := hide (HW2.out.trans (hb3.mono HW2.out.size))
      have hB3 := HK2.out.below hb3 HK2.out.lt
      obtain ⟨c0, c1, c2⟩ := itemC_name hB3
      clear hb3 hB3 HK2 HW2
      obtain ⟨nm, mo, sz, ky⟩ := p
      simp only at c0 c1 c2 HS
      cases hN : nameL nm with
      | false =>
        have HE : Hid (wrongTreeO L = 43) := hide (by rw [HS.out, if_pos hN])
        go_wp2
        go_ret
        exact ⟨by rw [HE.out]; rfl, HW3.out⟩
      | true =>
      have hN' : ¬ nameL nm = false := by rw [hN]; simp
      cases hL : (Op.bytesLess nm ahead || nm == ahead) with
      | true =>
        have HE : Hid (wrongTreeO L = 44) := hide (by rw [HS.out, if_neg hN', if_pos hL])
        clear hN hN'
        go_wp2
        go_ret
        exact ⟨by rw [HE.out]; rfl, HW3.out⟩
      | false =>
      have hL' : ¬ (Op.bytesLess nm ahead || nm == ahead) = true := by rw [hL]; simp
      have HS2 : Hid (wrongTreeO L = if badMode mo sz = true then 45 else treeL (L.drop (k + 1)) nm) := hide (by rw [HS.out, if_neg hN', if_neg hL'])
      clear hN hN' hL'
      go_wp2_with fail
      refine (isMode_any mo w3).mono ?_
      rintro e w4 ⟨rfl, hw4⟩
      rw [← hw4] at HW3 c0 c1 c2
      clear hw4 hL
      cases hM : (decide (1 ≤ mo) && decide (mo ≤ 4)) with
      | false =>
        have HE : Hid (wrongTreeO L = 45) := hide (by rw [HS2.out, if_pos (by unfold badMode; rw [hM]; rfl)])
        go_wp2
        go_ret
        exact ⟨by rw [HE.out]; rfl, HW3.out⟩
      | true =>
      by_cases h3 : mo = 3
      · have h3b : ((mo : Int) == 3) = true := by simp; omega
        by_cases hz : sz = 0
        · have hzb : ((sz : Int) != 0) = false := by simp; omega
          have HE : Hid (treeL (L.drop (k + 1)) nm = wrongTreeO L) := hide (by rw [HS2.out, if_neg (by unfold badMode; rw [hM, hz]; simp)])
          clear hM h3 hz
          go_wp2
          exact ⟨⟨k + 1, nm, rfl, by go_num, by omega, HE.out, HW3.out⟩, by simp [intOf]; omega⟩
        · have hzb : ((sz : Int) != 0) = true := by simp; omega
          have HE : Hid (wrongTreeO L = 45) := hide (by rw [HS2.out, if_pos (by unfold badMode; rw [hM, decide_eq_true h3, decide_eq_false hz]; rfl)])
          clear hM h3 hz
          go_wp2
          go_ret
          exact ⟨by rw [HE.out]; rfl, HW3.out⟩
      · have h3b : ((mo : Int) == 3) = false := by simp; omega
        have HE : Hid (treeL (L.drop (k + 1)) nm = wrongTreeO L) := hide (by rw [HS2.out, if_neg (by unfold badMode; rw [hM, decide_eq_false h3]; simp)])
        clear hM h3
        go_wp2
        exact ⟨⟨k + 1, nm, rfl, by go_num, by omega, HE.out, HW3.out⟩, by simp [intOf]; omega⟩
    · have hki : ¬ (k : Int) < (n : Int) := by omega
      have HE : Hid (wrongTreeO L = 0) := hide (by rw [← HTt.out, List.drop_eq_nil_of_le (by rw [← HN.out]; omega)]; rfl)
      go_wp2
      go_ret
      exact ⟨by rw [HE.out]; rfl, HW.out⟩
end Go.Proofs.YtjcfndiceinkjaaDoor
