/- Of lists, why they may not be: both ways. -/
import Derived.Test.YtjcfndiceinkjaaDoorOC1
namespace Go.Proofs.YtjcfndiceinkjaaDoor
set_option linter.unusedVariables false
set_option linter.unusedSimpArgs false
open Go.RowKit

theorem drop_cons {α : Type} (L : List α) (k : Nat) (h : k < L.length) : L.drop k = L[k] :: L.drop (k + 1) := List.drop_eq_getElem_cons h
theorem partC_size {w : World} {b o : Nat} {p : PartR} (hp : okP p) (h : w.rangeAt b o (partC p)) : w.cell? ⟨b, o + 32, none⟩ = some (.int .u64 (p.2 : Int)) := by
  unfold okP at hp
  refine h 32 _ ?_
  unfold partC
  rw [List.getElem?_append_right (by simp [hp])]; simp [hp]
def zP : Array Value := (partC (zero32, 0)).toArray
theorem zero_part (W : World) : (zeroValue 47).run Tryd.prog W = .ok (.agg zP) W := by kernel_rfl
theorem wu64 (n : Nat) (h : n ≤ 9223372036854775807) : IntKind.u64.wrap (n : Int) = (n : Int) := by
  simp [IntKind.wrap, IntKind.bits, IntKind.signed]; omega
set_option maxRecDepth 20000 in
set_option maxHeartbeats 2000000 in
theorem wrongList_any (w : World) (v : Value) (L : List PartR) (ok : ∀ p ∈ L, okP p) (hv : RowR w v 33 (L.map partC)) : Calls Tryd.prog 76 #[v] w (ErrC w (wrongListO L)) := by
  have HV := hide hv
  obtain ⟨ao, c, ev, hpl⟩ := hv.slice
  rw [List.length_map] at hpl ev
  have EV := hide ev
  rw [ev]
  obtain ⟨n, hn⟩ : ∃ n, n = L.length := ⟨_, rfl⟩
  rw [← hn] at hpl EV ⊢
  have HN := hide hn
  have hz0 := zero_part
  clear hv ev hn
  by_cases h1 : 128 < n
  · have a1 : (128 : Int) < (n : Int) := by omega
    have HF : Hid (wrongListO L = 42) := hide (by unfold wrongListO; rw [← HN.out, if_pos h1])
    go_enter Tryd.func76, Tryd.ntmps76
    go_wp2
    go_ret
    exact ⟨by rw [HF.out]; rfl, Below.refl _ _⟩
  have a1 : ¬ (128 : Int) < (n : Int) := by omega
  obtain ⟨T, hT⟩ : ∃ T, T = tot (L.map (·.2)) 9223372036854775807 := ⟨_, rfl⟩
  have HT := hide hT
  have HF : Hid (wrongListO L = if T then 0 else 47) := hide (by unfold wrongListO; rw [← HN.out, if_neg h1, hT])
  clear hT
  go_enter Tryd.func76, Tryd.ntmps76
  go_wp2
  go_loopw [3, 11] (fun s3 s11 wr => ∃ (k left : Nat), s3 = .int .u64 left ∧ s11 = .int .i64 k ∧ k ≤ n ∧ left ≤ 9223372036854775807 ∧ tot ((L.drop k).map (·.2)) left = T ∧ Below w.heap.size w wr) (fun _ s11 _ => n - (intOf s11).toNat)
  case atStart => exact ⟨0, 9223372036854775807, rfl, rfl, by omega, Nat.le_refl _, HT.out.symm, Below.refl _ _⟩
  case round =>
    obtain ⟨k, left, rfl, rfl, hk, hlf, ht, hW⟩ := hrel
    have HTt := hide ht
    have HW := hide hW
    clear ht
    by_cases hlt : k < n
    · have hki : (k : Int) < (n : Int) := by omega
      have k1 : k < L.length := by rw [← HN.out]; exact hlt
      obtain ⟨b, s, d, f1, r1⟩ := HV.out.at k (by rw [List.length_map]; exact k1)
      obtain ⟨g1, -, -⟩ := slice_of EV.out f1
      subst g1
      rw [List.getElem_map] at r1
      obtain ⟨p, hp⟩ : ∃ p, p = L[k] := ⟨_, rfl⟩
      have op : okP p := by rw [hp]; exact ok _ (List.getElem_mem _)
      rw [← hp] at r1
      have R1 := hide (rangeAt_below r1 hW)
      have OPp := hide op
      have HS : Hid (tot ((L.drop k).map (·.2)) left = if left < p.2 then false else tot ((L.drop (k + 1)).map (·.2)) (left - p.2)) := hide (by rw [drop_cons L k k1, ← hp]; rfl)
      obtain ⟨sz, hsz⟩ : ∃ z, z = p.2 := ⟨_, rfl⟩
      have PS : Hid ((partC p).toArray.size = 33) := hide (by simp [partC_len p OPp.out])
      have ZS : Hid (zP.size = 33) := hide rfl
      have P1 := hide (all_oneCell_toArray (partC_one p))
      have ZB : Hid (Blk (wr.alloc (.cells zP 47)) wr.heap.size zP 47) := hide (Blk.made wr _ _)
      rw [← hsz] at HS
      have HSz := hide hsz
      clear r1 f1 hp op hW hsz
      by_cases hbig : left < sz
      · have hbi : (left : Int) < (sz : Int) := by omega
        have HE : Hid (T = false) := hide (by rw [← HTt.out, HS.out, if_pos hbig])
        go_wp2_with (first
          | ((with_reducible refine wpList_load_partAt (.tmp 13) b (s + k * 33) p OPp.out R1.out ?_ ?_ ?_ ?_); rfl; rfl; rfl)
          | ((with_reducible refine wpList_store_blk ?_ 47 (.tmp 5) (.tmp 14) ?_ wr.heap.size 33 zP (partC p).toArray 47 PS.out ZS.out ?_ ?_ ZB.out infoPart P1.out ?_); rfl; rfl; rfl; rfl; intro w2 hk2 hg2; have c32 : w2.cell? ⟨wr.heap.size, 32, none⟩ = some (.int .u64 (sz : Int)) := (by have := partC_size OPp.out (range_blk (cs := (partC p).toArray) hk2); rw [HSz.out]; simpa using this)))
        go_ret
        exact ⟨by rw [HF.out, HE.out]; rfl, HW.out.trans (((below_alloc wr _).trans (below_grownBy hg2 (Nat.le_refl _) (below_alloc wr _).size)).mono HW.out.size)⟩
      · have hbi : ¬ (left : Int) < (sz : Int) := by omega
        have HE : Hid (tot ((L.drop (k + 1)).map (·.2)) (left - sz) = T) := hide (by rw [← HTt.out, HS.out, if_neg hbig])
        obtain ⟨l2, hl2⟩ : ∃ z, z = left - sz := ⟨_, rfl⟩
        rw [← hl2] at HE
        have hw2 : IntKind.u64.wrap ((left : Int) - (sz : Int)) = (l2 : Int) := by rw [show (left : Int) - (sz : Int) = (l2 : Int) by omega]; exact wu64 l2 (by omega)
        have hl3 : l2 ≤ 9223372036854775807 := by omega
        clear hl2
        go_wp2_with (first
          | ((with_reducible refine wpList_load_partAt (.tmp 13) b (s + k * 33) p OPp.out R1.out ?_ ?_ ?_ ?_); rfl; rfl; rfl)
          | ((with_reducible refine wpList_store_blk ?_ 47 (.tmp 5) (.tmp 14) ?_ wr.heap.size 33 zP (partC p).toArray 47 PS.out ZS.out ?_ ?_ ZB.out infoPart P1.out ?_); rfl; rfl; rfl; rfl; intro w2 hk2 hg2; have c32 : w2.cell? ⟨wr.heap.size, 32, none⟩ = some (.int .u64 (sz : Int)) := (by have := partC_size OPp.out (range_blk (cs := (partC p).toArray) hk2); rw [HSz.out]; simpa using this)))
        exact ⟨⟨k + 1, l2, rfl, by go_num, by omega, hl3, HE.out, HW.out.trans (((below_alloc wr _).trans (below_grownBy hg2 (Nat.le_refl _) (below_alloc wr _).size)).mono HW.out.size)⟩, by simp [intOf]; omega⟩
    · have hki : ¬ (k : Int) < (n : Int) := by omega
      have HE : Hid (T = true) := hide (by rw [← HTt.out, List.drop_eq_nil_of_le (by rw [← HN.out]; omega)]; rfl)
      go_wp2
      go_ret
      exact ⟨by rw [HF.out, HE.out]; rfl, HW.out⟩
end Go.Proofs.YtjcfndiceinkjaaDoor
