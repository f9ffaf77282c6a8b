/- KeySets: the row of what was kept, without bytes; one more of it. -/
import Derived.Test.YtnloglecfbhpcaaKL3s
namespace Go.Proofs.Ytnloglecfbhpcaa
set_option linter.unusedVariables false
set_option linter.unusedSimpArgs false
open Go.RowKit Go.Sort Go.Shelf
set_option maxRecDepth 100000
set_option maxHeartbeats 4000000

theorem zc_no (n : Nat) : ∀ v ∈ (Builtin.zeroCells (Value.agg #[.nilFunc, .slice none 0 0]).cells n).toList, ∀ u : UInt8, v ≠ u8c u := by
  intro v hv u e
  have h1 : (Value.agg #[.nilFunc, .slice none 0 0]).cells = #[.nilFunc, .slice none 0 0] := rfl
  rw [h1] at hv
  unfold Builtin.zeroCells at hv
  rw [Array.toList_map, List.mem_map] at hv
  obtain ⟨i, _, hi⟩ := hv
  have h2 : i % (#[Value.nilFunc, .slice none 0 0] : Array Value).size = 0 ∨ i % (#[Value.nilFunc, .slice none 0 0] : Array Value).size = 1 := by
    show i % 2 = 0 ∨ i % 2 = 1
    omega
  subst e
  rcases h2 with h2 | h2 <;> rw [h2] at hi <;> cases hi
theorem kp_no {lb n c : Nat} {ao : Option Addr} : ∀ v ∈ [riF lb, .slice ao n c], ∀ u : UInt8, v ≠ u8c u := by
  intro v hv u e
  subst e
  simp only [List.mem_cons, List.not_mem_nil, or_false] at hv
  rcases hv with h | h <;> cases h
theorem noU_list {w : World} {z : Nat} {cs : Array Value} {t : TypeId} (hz : Blk w z cs t) (h : NoU w z) : ∀ v ∈ cs.toList, ∀ u : UInt8, v ≠ u8c u := fun v hv u e => by
  obtain ⟨o, ho⟩ := List.getElem?_of_mem hv
  refine h o u ?_
  rw [hz.cell, ← Array.getElem?_toList, ho, e]
theorem nou_app {w : World} {base : Nat} {v : Value} {A : List (Value × Value)} (hown : OwnP w base v A) (hno : ∀ b, v.ownBlock = some b → NoU w b) {z lb n c : Nat} {ao : Option Addr} (hc : Blk w z #[riF lb, .slice ao n c] KPT) (hlen : A.length + 1 ≤ 1099511627776) {v5 : Value} {w5 : World}
    (hr : (Builtin.append_ #[KPLT, KPLT] KPLT #[v, .slice (some ⟨z, 0, none⟩) 1 1]).run Try.prog w = .ok v5 w5) : ∀ b, v5.ownBlock = some b → NoU w5 b := by
  obtain ⟨i0, hi, hz0, hz1, hz2⟩ := kpI
  have hnews : ∀ j u, [riF lb, .slice ao n c][j]? = some u → w.cell? ((⟨z, 0, none⟩ : Addr).add j) = some u := fun j u hj => by rw [Addr.add_mid, hc.cell]; simpa using hj
  have h1 : ∀ u ∈ [riF lb, .slice ao n c], u.oneCell' = true := by intro u hu; simp only [List.mem_cons, List.not_mem_nil, or_false] at hu; rcases hu with rfl | rfl <;> rfl
  obtain ⟨hlx, hcase⟩ := hown
  rcases hcase with ⟨rfl, hn0⟩ | ⟨g, cap, cur, rfl, hbg, hg, hnc, hcm, hcs, htake⟩
  · have hr2 := run_append_nil (P := Try.prog) w KPLT KPLT KPT i0 _ Try.underlying30 hi hz0 ⟨z, 0, none⟩ 1 1 [riF lb, .slice ao n c] (by rw [hz1]; rfl) hnews (by decide) (by decide) (by rw [hz2]; decide)
    rw [hr2] at hr
    injection hr with e1 e2
    subst e1 e2
    intro b hb
    have hb2 : w.heap.size = b := by simpa [Value.ownBlock] using hb
    subst hb2
    refine NoU.blk (Blk.made w.drew _ _) ?_
    intro v hv
    rw [Array.toList_append, List.mem_append] at hv
    rcases hv with hv | hv
    · exact kp_no v hv
    · exact zc_no _ v hv
  · have hmn := hno g rfl
    have hgB : Blk w g cur KPT := hg
    by_cases hroom : A.length + 1 ≤ cap
    · have hr2 := run_append_room (P := Try.prog) w KPLT KPLT KPT i0 Try.underlying30 hi g A.length cap cur hg ⟨z, 0, none⟩ 1 1 [riF lb, .slice ao n c] (by rw [hz1]; rfl) hnews h1 hroom (by rw [hz1, hcs]; simp only [List.length_cons, List.length_nil]; omega)
      rw [hr2] at hr
      injection hr with e1 e2
      subst e1 e2
      intro b hb
      have hb2 : g = b := by simpa [Value.ownBlock] using hb
      subst hb2
      refine NoU.blk (t := KPT) (setRow_heap w g cur _ KPT _ hg) ?_
      intro v hv
      have hall := noU_list hgB hmn
      simp only [List.mem_append] at hv
      rcases hv with (hv | hv) | hv
      · exact hall v (List.mem_of_mem_take hv)
      · exact kp_no v hv
      · exact hall v (List.mem_of_mem_drop hv)
    · have holds : ∀ j u, (A.flatMap KsC)[j]? = some u → w.cell? ((⟨g, 0, none⟩ : Addr).add j) = some u := World.ownsRow.cells (g := g) (show OwnP w base (.slice (some ⟨g, 0, none⟩) A.length cap) A from ⟨hlx, .inr ⟨g, cap, cur, rfl, hbg, hg, hnc, hcm, hcs, htake⟩⟩) rfl
      have hr2 := run_append_grow (P := Try.prog) w KPLT KPLT KPT i0 _ Try.underlying30 hi hz0 ⟨g, 0, none⟩ A.length cap (A.flatMap KsC) (by rw [hz1]; exact hlx) holds ⟨z, 0, none⟩ 1 1 [riF lb, .slice ao n c] (by rw [hz1]; rfl) hnews (by omega) (by omega) (by rw [hz2]; exact growslice_fits (by omega) (by omega))
      rw [hr2] at hr
      injection hr with e1 e2
      subst e1 e2
      intro b hb
      have hb2 : w.heap.size = b := by simpa [Value.ownBlock] using hb
      subst hb2
      refine NoU.blk (Blk.made w.drew _ _) ?_
      intro v hv
      have hall := noU_list hgB hmn
      rw [Array.toList_append, Array.toList_append, List.mem_append, List.mem_append] at hv
      rcases hv with (hv | hv) | hv
      · refine hall v ?_
        rw [← htake] at hv
        exact List.mem_of_mem_take hv
      · exact kp_no v hv
      · exact zc_no _ v hv
theorem blk_ne {W : World} {a b : Nat} {cs ds : Array Value} {t u : TypeId} (h : Blk W a cs t) (k : Blk W b ds u) (hne : t ≠ u) : a ≠ b := fun e => by
  subst e
  unfold Blk at h k
  rw [h] at k
  injection Option.some.inj k with e1 e2
  exact hne e2
/-- One more is kept. -/
theorem LwS.push {TK : List (List UInt8)} {w0 W : World} {N wz : Nat} {E : Nat → EL} {kv : Value} {KS : List (Value × Value)} (h : LwS TK w0 W N wz E kv KS) {lb n c : Nat} {ao : Option Addr} {V : List (List UInt8)} (hit : ItK W lb V) (hr : KRow W ao V) (hn : n = V.length) (hl : V.length ≤ 4398046510976) (hlen : KS.length + 1 ≤ 1099511627776) :
    ∃ a5 n5 c5 w5, (Builtin.append_ #[KPLT, KPLT] KPLT #[kv, .slice (some ⟨W.heap.size, 0, none⟩) 1 1]).run Try.prog (W.alloc (.cells #[riF lb, .slice ao n c] KPT)) = .ok (.slice a5 n5 c5) w5 ∧ Blk w5 wz (wA E kv) WT ∧ LwS TK w0 (w5.setCell ⟨wz, 9, none⟩ (.slice a5 n5 c5)) N wz E (.slice a5 n5 c5) (KS ++ [(riF lb, .slice ao n c)]) ∧
      (∀ z cs t, Blk W z cs t → t ≠ KPT → Blk w5 z cs t) ∧ (∀ z cs t, Blk W z cs t → t ≠ KPT → t ≠ WT → Blk (w5.setCell ⟨wz, 9, none⟩ (.slice a5 n5 c5)) z cs t) := by
  have hb1 : Below W.heap.size W (W.alloc (.cells #[riF lb, .slice ao n c] KPT)) := (Below.refl _ _).alloc (Nat.le_refl _) _
  have h1 := h.below hb1
  have hz1 : Blk (W.alloc (.cells #[riF lb, .slice ao n c] KPT)) W.heap.size #[riF lb, .slice ao n c] KPT := Blk.made W _ _
  obtain ⟨v5, w5, r1, r2, r3⟩ := run_appP h1.kr hz1 hlen h1.sz
  have r4 := nou_app h1.kr h1.nu hz1 hlen r1
  obtain ⟨a5, c5, e5, _⟩ := r2.slice
  obtain ⟨n5, hn5⟩ : ∃ n5, n5 = (KS ++ [(riF lb, Value.slice ao n c)]).length := ⟨_, rfl⟩
  rw [← hn5] at e5
  subst e5
  have g1 : ∀ z cs t, Blk (W.alloc (.cells #[riF lb, .slice ao n c] KPT)) z cs t → t ≠ KPT → Blk w5 z cs t := fun z cs t hb ht => hb.grown r3 (fun e => by
    obtain ⟨ds, hd⟩ := h1.kr.blk e.symm
    exact blk_ne hb hd ht rfl)
  have hw5 : Blk w5 wz (wA E kv) WT := g1 _ _ _ h1.wb (by decide)
  have g2 : ∀ z cs t, Blk w5 z cs t → t ≠ WT → Blk (w5.setCell ⟨wz, 9, none⟩ (.slice a5 n5 c5)) z cs t := fun z cs t hb ht => hb.setOther _ _ (blk_ne hb hw5 ht)
  have g0 : ∀ z cs t, Blk W z cs t → Blk (W.alloc (.cells #[riF lb, .slice ao n c] KPT)) z cs t := fun z cs t hb => hb.below hb1 hb.lt
  refine ⟨a5, n5, c5, w5, r1, hw5, ?_, fun z cs t hb ht => g1 z cs t (g0 z cs t hb) ht, fun z cs t hb ht hw => g2 z cs t (g1 z cs t (g0 z cs t hb) ht) hw⟩
  obtain ⟨W', hW'⟩ : ∃ W', W' = w5.setCell ⟨wz, 9, none⟩ (.slice a5 n5 c5) := ⟨_, rfl⟩
  rw [← hW'] at g2 ⊢
  have hoth : ∀ k, k ≠ wz → W'.heap[k]? = w5.heap[k]? := fun k hk => by rw [hW']; exact heap_setCell_other w5 _ k _ hk
  have hT : Tch (fun k => kv.ownBlock = some k ∨ k = wz) (W.alloc (.cells #[riF lb, .slice ao n c] KPT)) W' := by
    refine ⟨by rw [hW']; exact r3.os, by rw [hW']; exact r3.tape, by rw [hW']; exact r3.output, by rw [hW']; unfold World.setCell; simpa using r3.size, fun k hk hn2 => ?_⟩
    exact (hoth k (fun e => hn2 (.inr e))).trans (r3.block k hk (fun e => hn2 (.inl e.symm)))
  have hnw : NoU (W.alloc (.cells #[riF lb, .slice ao n c] KPT)) wz := NoU.blk h1.wb (fun v hv u e => by
    simp only [wA, List.mem_cons, List.not_mem_nil, or_false] at hv
    rcases hv with rfl | rfl | rfl | rfl | rfl | rfl | rfl | rfl | rfl | rfl <;> first | (cases e; done) | skip
    obtain ⟨ao, c, e2, _⟩ := h.kr.slice
    rw [e2] at e
    cases e)
  have hkv : KeepV (W.alloc (.cells #[riF lb, .slice ao n c] KPT)) W' := KeepV.tch hT (fun k hk => by
    rcases hk with hk | rfl
    · exact h1.nu k hk
    · exact hnw) (fun k cs hk hb => by
    rcases hk with hk | rfl
    · obtain ⟨ds, hd⟩ := h1.kr.blk hk
      exact blk_ne hb hd (by decide) rfl
    · exact blk_ne hb h1.wb (by decide) rfl)
  have hTn : ∀ {k : Nat} {cs : Array Value} {t : TypeId}, Blk (W.alloc (.cells #[riF lb, .slice ao n c] KPT)) k cs t → t ≠ KPT → t ≠ WT → ¬ (kv.ownBlock = some k ∨ k = wz) := fun {k cs t} hb ht hw hk => by
    rcases hk with hk | rfl
    · obtain ⟨ds, hd⟩ := h1.kr.blk hk
      exact blk_ne hb hd ht rfl
    · exact blk_ne hb h1.wb hw rfl
  refine ⟨hT.bel h1.bel h1.sz (fun k hk => ?_), ?_, h.lo, fun j hj => ?_, h.low, h.ap, r2.same (fun b e => ?_), fun z hz => ?_, fun b e => ?_⟩
  · rcases hk with hk | rfl
    · exact (h1.kr.lt hk).2
    · exact h.lo
  · rw [hW']
    exact hw5.set 9 _
  · have hel := h1.el j hj
    obtain ⟨ar, nr, cr, hrr⟩ := hel.rs
    refine hel.stay (f := E 0) hT hkv (hTn hrr.blk (by decide) (by decide)) (fun hq ht => ?_) (fun zp hz ht => ?_)
    · rcases hel.set with ⟨h1q, _⟩ | ⟨zp, S, _, h2, _⟩
      · exact hq h1q
      · obtain ⟨es, clock, hm⟩ := h2.map
        rcases ht with ht | ht
        · obtain ⟨ds, hd⟩ := h1.kr.blk ht
          exact map_noBlk hm hd
        · rw [ht] at hm
          exact map_noBlk hm h1.wb
    · rcases hel.set with ⟨h1q, _⟩ | ⟨zp', S, h1q, h2, _⟩
      · rw [h1q] at hz; cases hz
      · rw [h1q] at hz
        cases hz
        exact hTn h2.blk (by decide) (by decide) ht
  · obtain ⟨cs, hc⟩ := r2.blk e
    exact hoth b (blk_ne hc hw5 (by decide))
  · rcases List.mem_append.1 hz with hz | hz
    · exact (h1.ks z hz).keepV hkv
    · rw [List.mem_singleton.1 hz]
      exact KsOk.keepV ⟨lb, ao, n, c, V, rfl, hit.below hb1, hr.below hb1, hn, hl⟩ hkv
  · obtain ⟨cs, hc⟩ := r2.blk e
    exact (r4 b e).same (hoth b (blk_ne hc hw5 (by decide)))
end Go.Proofs.Ytnloglecfbhpcaa
