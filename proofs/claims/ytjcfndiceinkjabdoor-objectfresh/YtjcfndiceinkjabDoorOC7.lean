/- Of trees, as the document tells it. -/
import Derived.Test.YtjcfndiceinkjabDoorOCm
namespace Go.Proofs.YtjcfndiceinkjabDoor
set_option linter.unusedVariables false
set_option linter.unusedSimpArgs false
open Go.RowKit

theorem itemC_cells {w : World} {b o : Nat} {i : ItemR} (h : w.rangeAt b o (itemC i)) : w.cell? ⟨b, o, none⟩ = some (.string ⟨i.1.toArray⟩) ∧ w.cell? ⟨b, o + 1, none⟩ = some (.int .u8 (i.2.1 : Int)) ∧ w.cell? ⟨b, o + 2, none⟩ = some (.int .u64 (i.2.2.1 : Int)) := by
  refine ⟨?_, ?_, ?_⟩
  · exact h 0 _ rfl
  · exact h 1 _ rfl
  · exact h 2 _ rfl
theorem less_nil (a : List UInt8) : Op.bytesLess a [] = false := by cases a <;> rfl
theorem name_ne (a : List UInt8) (h : nameL a = true) : a ≠ [] := by
  rintro rfl
  have : nameL [] = false := by kernel_rfl
  rw [this] at h
  cases h
theorem wanted_no {ops : Array Oper} {o : Oper} {a : Act} {j : Nat} {b : Bool} {t : Tmp} (hg : o.guard = some (j, b)) (hd : (ops[j]?).bind (·.dst) = some t) (he : a.eval (.tmp t) = .bool (!b)) (hz : t < a.tmps.size) : Region.wanted o (yielded ops a.tmps) = false := by
  have h1 : a.tmps[t]? = some (.bool (!b)) := by
    rw [Array.getElem?_eq_getElem hz]
    simpa [Act.eval, hz] using he
  simp [Region.wanted, hg, yielded, hd, h1]
theorem wpStill_no {P : Program} {ops : Array Oper} {w : World} {Q : Act → Prop} {a : Act} {o : Oper} {rest : List Oper} (hg : Region.wanted o (yielded ops a.tmps) = false) (h : wpStill P ops w Q rest (a.put o.dst undef)) : wpStill P ops w Q (o :: rest) a := by
  unfold wpStill
  rw [if_neg (by rw [hg]; simp)]
  exact h
/-- Operations whose guard is off, one behind the other. -/
theorem wpStill_nos {P : Program} {ops : Array Oper} {w : World} {Q : Act → Prop} (t : Tmp) (j : Nat) (b : Bool) (hd : (ops[j]?).bind (·.dst) = some t) : ∀ (n : Nat) (L : List Oper) (a : Act), (∀ x ∈ L.take n, x.guard = some (j, b) ∧ ∃ d, x.dst = some d ∧ d ≠ t) → a.eval (.tmp t) = .bool (!b) → t < a.tmps.size →
    wpStill P ops w Q (L.drop n) ((L.take n).foldl (fun a o => a.put o.dst undef) a) → wpStill P ops w Q L a
  | 0, L, a, _, _, _, h => h
  | n + 1, [], a, _, _, _, h => h
  | n + 1, o :: L, a, hL, he, hz, h => by
    obtain ⟨g, d, hdd, hne⟩ := hL o (by simp)
    refine wpStill_no (wanted_no g hd he hz) ?_
    refine wpStill_nos t j b hd n L _ (fun x hx => hL x (by simp [hx])) ?_ ?_ h
    · rw [hdd, ev_other _ _ _ _ hne]; exact he
    · rw [hdd, sz_put]; exact hz
theorem wpStill_move_nos {P : Program} {ops : Array Oper} {w : World} {Q : Act → Prop} {a : Act} {o : Oper} {L : List Oper} (t : Tmp) (j : Nat) (b : Bool) (n : Nat) (hg : Region.wanted o (yielded ops a.tmps) = true) (hr : (execOp a.eval o).run P w = .ok (.value (.bool (!b))) w) (hot : o.dst = some t) (hd : (ops[j]?).bind (·.dst) = some t)
    (hz : t < a.tmps.size) (hL : ∀ x ∈ L.take n, x.guard = some (j, b) ∧ ∃ d, x.dst = some d ∧ d ≠ t)
    (h : wpStill P ops w Q (L.drop n) ((L.take n).foldl (fun a o => a.put o.dst undef) (a.put (some t) (.bool (!b))))) : wpStill P ops w Q (o :: L) a := by
  refine wpStill_val _ hg hr ?_
  rw [hot]
  exact wpStill_nos t j b hd n L _ hL (ev_same _ _ _ hz) (by rw [sz_put]; exact hz) h
def AheadO (L : List ItemR) (k : Nat) (ahead : List UInt8) : Prop := (k = 0 ∧ ahead = []) ∨ ∃ j, k = j + 1 ∧ ∃ h : j < L.length, (L[j]'h).1 = ahead
set_option maxRecDepth 20000 in
set_option maxHeartbeats 2000000 in
theorem ritems_any (w : World) (v : Value) (L : List ItemR) (ok : ∀ p ∈ L, okI p) (hv : RowR w v 35 (L.map itemC)) : Calls Tryd.prog 37 #[v] w (ErrC w (treeL L [])) := by
  have HV := hide hv
  obtain ⟨ao, c, ev, hpl⟩ := hv.slice
  rw [List.length_map] at hpl ev
  have EV := hide ev
  rw [ev]
  obtain ⟨n, hn⟩ : ∃ n, n = L.length := ⟨_, rfl⟩
  rw [← hn] at hpl EV ⊢
  have HN := hide hn
  clear hv ev hn
  obtain ⟨T, hT⟩ : ∃ T, T = treeL L [] := ⟨_, rfl⟩
  have HT := hide hT
  rw [← hT]
  clear hT
  go_enter Tryd.func37, Tryd.ntmps37
  go_wp2
  go_loopw [3] (fun s3 wr => ∃ (k : Nat) (ahead : List UInt8), s3 = .int .i64 k ∧ k ≤ n ∧ AheadO L k ahead ∧ treeL (L.drop k) ahead = T ∧ Below w.heap.size w wr) (fun s3 _ => n - (intOf s3).toNat)
  case atStart => exact ⟨0, [], rfl, by omega, .inl ⟨rfl, rfl⟩, HT.out.symm, Below.refl _ _⟩
  case round =>
    obtain ⟨k, ahead, rfl, hk, hAh, ht, hW⟩ := hrel
    have HTt := hide ht
    have HW := hide hW
    have HAh := hide hAh
    clear ht hAh
    by_cases hlt : k < n
    · have hki : (k : Int) < (n : Int) := by omega
      have k1 : k < L.length := by rw [← HN.out]; exact hlt
      obtain ⟨b, s, d, f1, r1⟩ := HV.out.at k (by rw [List.length_map]; exact k1)
      obtain ⟨g1, -, -⟩ := slice_of EV.out f1
      subst g1
      rw [List.getElem_map] at r1
      obtain ⟨p, hp⟩ : ∃ p, p = L[k] := ⟨_, rfl⟩
      have HAp : Hid (AheadO L (k + 1) p.1) := hide (.inr ⟨k, rfl, k1, by rw [hp]⟩)
      rw [← hp] at r1
      have HS : Hid (T = if nameL p.1 = false then 43 else if (Op.bytesLess p.1 ahead || p.1 == ahead) = true then 44 else if badMode p.2.1 p.2.2.1 = true then 45 else treeL (L.drop (k + 1)) p.1) := hide (by rw [← HTt.out, drop_cons L k k1, ← hp]; rfl)
      obtain ⟨nm, mo, sz, ky⟩ := p
      have R1 := hide r1
      obtain ⟨c0, c1, c2⟩ := itemC_cells (rangeAt_below r1 hW)
      simp only at c0 c1 c2 HS HAp
      clear hp r1 hW
      go_wp2_with fail
      refine (named_all nm wr).mono ?_
      rintro e wx ⟨rfl, hwx⟩
      rw [hwx]
      clear hwx wx
      cases hN : nameL nm with
      | false =>
        have HE : Hid (T = 43) := hide (by rw [HS.out, if_pos hN])
        go_wp2
        go_ret
        exact ⟨by rw [HE.out]; rfl, HW.out⟩
      | true =>
      have hN' : ¬ nameL nm = false := by rw [hN]; simp
      have hnn := name_ne nm hN
      cases hL : (Op.bytesLess nm ahead || nm == ahead) with
      | true =>
        have HE : Hid (T = 44) := hide (by rw [HS.out, if_neg hN', if_pos hL])
        rcases HAh.out with ⟨hk0, ha0⟩ | ⟨j, hj, hjl, hja⟩
        · exfalso
          rw [ha0, less_nil] at hL
          exact hnn (by simpa using hL)
        clear hN hN' hnn
        have jl : j < n := by omega
        have jli : (j : Int) < (n : Int) := by omega
        have j0 : (0 : Int) ≤ (j : Int) := by omega
        have hjw : IntKind.i64.wrap ((k : Int) - 1) = (j : Int) := by rw [show (k : Int) - 1 = (j : Int) by omega]; exact wrapi64_nat j (by omega)
        have kpos : (0 : Int) < (k : Int) := by omega
        have kpn : 0 < k := by omega
        obtain ⟨b', s', d', f2, r2⟩ := HV.out.at j (by rw [List.length_map]; exact hjl)
        obtain ⟨g2, -, -⟩ := slice_of EV.out f2
        cases g2
        rw [List.getElem_map] at r2
        obtain ⟨e0, -, -⟩ := itemC_cells (rangeAt_below r2 HW.out)
        rw [hja] at e0
        clear r2 f2 hj hjl hja
        go_wp2_with fail
        refine wp_region_still_lit (by kernel_rfl) (by kernel_rfl) ?_
        repeat still_step
        refine wpStill_nil ?_
        go_wp2_with fail
        go_ret
        exact ⟨by rw [HE.out]; rfl, HW.out.drew⟩
      | false =>
      have hL' : ¬ (Op.bytesLess nm ahead || nm == ahead) = true := by rw [hL]; simp
      have HS2 : Hid (T = if badMode mo sz = true then 45 else treeL (L.drop (k + 1)) nm) := hide (by rw [HS.out, if_neg hN', if_neg hL'])
      clear hN hN' hnn hL'
      rcases HAh.out with ⟨hk0, ha0⟩ | ⟨j, hj, hjl, hja⟩
      · have k0 : ¬ 0 < k := by omega
        clear hk0 ha0 hL
        go_wp2_with fail
        refine wp_region_still_lit (by kernel_rfl) (by kernel_rfl) ?_
        still_step
        still_step
        refine wpStill_move_nos 21 2 true 12 rfl rfl rfl rfl ((by decide : (21 : Nat) < 65)) ?_ ?_
        · intro x hx
          simp only [List.take_succ_cons, List.take_zero, List.mem_cons, List.not_mem_nil, or_false] at hx
          rcases hx with rfl | rfl | rfl | rfl | rfl | rfl | rfl | rfl | rfl | rfl | rfl | rfl <;> exact ⟨rfl, _, rfl, by decide⟩
        simp only [List.drop_succ_cons, List.drop_zero, List.take_succ_cons, List.take_zero, List.foldl_cons, List.foldl_nil]
        with_reducible refine wpStill_step (fun K hK => ?_)
        go_simp
        refine hK _ ?_
        clear hK K
        with_reducible refine wpStill_nil ?_
        obtain ⟨wd, hwd⟩ : ∃ wd : World, wd = { wr with drawn := wr.drawn + 1 } := ⟨_, rfl⟩
        have c1' : wd.cell? ⟨b, s + k * 35 + 1, none⟩ = some (.int .u8 (mo : Int)) := by rw [hwd]; exact c1
        have c2' : wd.cell? ⟨b, s + k * 35 + 2, none⟩ = some (.int .u64 (sz : Int)) := by rw [hwd]; exact c2
        have HW2 : Hid (Below w.heap.size w wd) := hide (by rw [hwd]; exact HW.out.drew)
        rw [← hwd]
        clear hwd c0 c1 c2
        by_cases m1 : mo < 1
        · have m1i : (mo : Int) < 1 := by omega
          have HE : Hid (T = 45) := hide (by rw [HS2.out, if_pos (by unfold badMode; rw [decide_eq_false (show ¬ 1 ≤ mo by omega)]; rfl)])
          clear m1
          go_wp2
          go_ret
          exact ⟨by rw [HE.out]; rfl, HW2.out⟩
        have m1i : ¬ (mo : Int) < 1 := by omega
        by_cases m4 : 4 < mo
        · have m4i : (4 : Int) < (mo : Int) := by omega
          have HE : Hid (T = 45) := hide (by rw [HS2.out, if_pos (by unfold badMode; rw [decide_eq_false (show ¬ mo ≤ 4 by omega)]; simp)])
          clear m1 m4
          go_wp2
          go_ret
          exact ⟨by rw [HE.out]; rfl, HW2.out⟩
        have m4i : ¬ (4 : Int) < (mo : Int) := by omega
        have hM : (decide (1 ≤ mo) && decide (mo ≤ 4)) = true := by simp; omega
        by_cases h3 : mo = 3
        · have h3b : ((mo : Int) == 3) = true := by simp; omega
          by_cases hz : sz = 0
          · have hzb : ((sz : Int) != 0) = false := by simp; omega
            have HE : Hid (treeL (L.drop (k + 1)) nm = T) := hide (by rw [HS2.out, if_neg (by unfold badMode; rw [hM, hz]; simp)])
            clear hM h3 hz m1 m4
            go_wp2
            exact ⟨⟨k + 1, nm, by go_num, by omega, HAp.out, HE.out, HW2.out⟩, by simp [intOf]; omega⟩
          · have hzb : ((sz : Int) != 0) = true := by simp; omega
            have HE : Hid (T = 45) := hide (by rw [HS2.out, if_pos (by unfold badMode; rw [hM, decide_eq_true h3, decide_eq_false hz]; rfl)])
            clear hM h3 hz m1 m4
            go_wp2
            go_ret
            exact ⟨by rw [HE.out]; rfl, HW2.out⟩
        · have h3b : ((mo : Int) == 3) = false := by simp; omega
          have HE : Hid (treeL (L.drop (k + 1)) nm = T) := hide (by rw [HS2.out, if_neg (by unfold badMode; rw [hM, decide_eq_false h3]; simp)])
          clear hM h3 m1 m4
          go_wp2
          exact ⟨⟨k + 1, nm, by go_num, by omega, HAp.out, HE.out, HW2.out⟩, by simp [intOf]; omega⟩
      · have jl : j < n := by omega
        have jli : (j : Int) < (n : Int) := by omega
        have j0 : (0 : Int) ≤ (j : Int) := by omega
        have hjw : IntKind.i64.wrap ((k : Int) - 1) = (j : Int) := by rw [show (k : Int) - 1 = (j : Int) by omega]; exact wrapi64_nat j (by omega)
        have kpos : (0 : Int) < (k : Int) := by omega
        have kpn : 0 < k := by omega
        obtain ⟨b', s', d', f2, r2⟩ := HV.out.at j (by rw [List.length_map]; exact hjl)
        obtain ⟨g2, -, -⟩ := slice_of EV.out f2
        cases g2
        rw [List.getElem_map] at r2
        obtain ⟨e0, -, -⟩ := itemC_cells (rangeAt_below r2 HW.out)
        rw [hja] at e0
        clear r2 f2 hj hjl hja
        go_wp2_with fail
        refine wp_region_still_lit (by kernel_rfl) (by kernel_rfl) ?_
        repeat still_step
        refine wpStill_nil ?_
        clear hL
        obtain ⟨wd, hwd⟩ : ∃ wd : World, wd = { wr with drawn := wr.drawn + 1 } := ⟨_, rfl⟩
        have c1' : wd.cell? ⟨b, s + k * 35 + 1, none⟩ = some (.int .u8 (mo : Int)) := by rw [hwd]; exact c1
        have c2' : wd.cell? ⟨b, s + k * 35 + 2, none⟩ = some (.int .u64 (sz : Int)) := by rw [hwd]; exact c2
        have HW2 : Hid (Below w.heap.size w wd) := hide (by rw [hwd]; exact HW.out.drew)
        rw [← hwd]
        clear hwd c0 c1 c2
        by_cases m1 : mo < 1
        · have m1i : (mo : Int) < 1 := by omega
          have HE : Hid (T = 45) := hide (by rw [HS2.out, if_pos (by unfold badMode; rw [decide_eq_false (show ¬ 1 ≤ mo by omega)]; rfl)])
          clear m1
          go_wp2
          go_ret
          exact ⟨by rw [HE.out]; rfl, HW2.out⟩
        have m1i : ¬ (mo : Int) < 1 := by omega
        by_cases m4 : 4 < mo
        · have m4i : (4 : Int) < (mo : Int) := by omega
          have HE : Hid (T = 45) := hide (by rw [HS2.out, if_pos (by unfold badMode; rw [decide_eq_false (show ¬ mo ≤ 4 by omega)]; simp)])
          clear m1 m4
          go_wp2
          go_ret
          exact ⟨by rw [HE.out]; rfl, HW2.out⟩
        have m4i : ¬ (4 : Int) < (mo : Int) := by omega
        have hM : (decide (1 ≤ mo) && decide (mo ≤ 4)) = true := by simp; omega
        by_cases h3 : mo = 3
        · have h3b : ((mo : Int) == 3) = true := by simp; omega
          by_cases hz : sz = 0
          · have hzb : ((sz : Int) != 0) = false := by simp; omega
            have HE : Hid (treeL (L.drop (k + 1)) nm = T) := hide (by rw [HS2.out, if_neg (by unfold badMode; rw [hM, hz]; simp)])
            clear hM h3 hz m1 m4
            go_wp2
            exact ⟨⟨k + 1, nm, by go_num, by omega, HAp.out, HE.out, HW2.out⟩, by simp [intOf]; omega⟩
          · have hzb : ((sz : Int) != 0) = true := by simp; omega
            have HE : Hid (T = 45) := hide (by rw [HS2.out, if_pos (by unfold badMode; rw [hM, decide_eq_true h3, decide_eq_false hz]; rfl)])
            clear hM h3 hz m1 m4
            go_wp2
            go_ret
            exact ⟨by rw [HE.out]; rfl, HW2.out⟩
        · have h3b : ((mo : Int) == 3) = false := by simp; omega
          have HE : Hid (treeL (L.drop (k + 1)) nm = T) := hide (by rw [HS2.out, if_neg (by unfold badMode; rw [hM, decide_eq_false h3]; simp)])
          clear hM h3 m1 m4
          go_wp2
          exact ⟨⟨k + 1, nm, by go_num, by omega, HAp.out, HE.out, HW2.out⟩, by simp [intOf]; omega⟩
    · have hki : ¬ (k : Int) < (n : Int) := by omega
      have HE : Hid (T = 0) := hide (by rw [← HTt.out, List.drop_eq_nil_of_le (by rw [← HN.out]; omega)]; rfl)
      go_wp2
      go_ret
      exact ⟨by rw [HE.out]; rfl, HW.out⟩
end Go.Proofs.YtjcfndiceinkjabDoor
