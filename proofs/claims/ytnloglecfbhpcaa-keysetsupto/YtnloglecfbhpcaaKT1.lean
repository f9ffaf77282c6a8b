/- tells: walked. -/
import Derived.Test.YtnloglecfbhpcaaKQ4
import Derived.Test.YtnloglecfbhpcaaKB3
namespace Go.Proofs.Ytnloglecfbhpcaa
set_option linter.unusedVariables false
set_option linter.unusedSimpArgs false
open Go.RowKit Go.Sort Go.Shelf
set_option maxRecDepth 100000
set_option maxHeartbeats 16000000
attribute [local go_sem] Oper.semAt_some

abbrev KPT : TypeId := 44
abbrev INT : TypeId := 3
abbrev BT : TypeId := 4
theorem below_alloc (w : World) (o : Obj) : Below w.heap.size w (w.alloc o) := (Below.refl _ _).alloc (Nat.le_refl _) _
/-- What is deferred at the loops' ends is taken over, mark by mark. -/
def marks (Ds : List Nat) : List Deferred := Ds.map fun D => { target := .collected D, args := #[] }
theorem leave_marks {F : Fence} {n : Nat} {P : Program} {fn : Func} {tmps : Array Value} {R : Ending → World → Prop} {N : Nat} (w : World) : ∀ (Ds : List Nat) (W : World), Ds.Nodup → (∀ D ∈ Ds, N ≤ D ∧ W.heap[D]? = some (.deferred (some []))) → Below N w W →
    (∀ W', Below N w W' → (∀ k, k ∉ Ds → W'.heap[k]? = W.heap[k]?) → LeavesInM F n P fn tmps R [] .returning W') → LeavesInM F n P fn tmps R (marks Ds) .returning W
  | [], W, _, _, hb, hR => hR W hb (fun _ _ => rfl)
  | D :: Ds, W, hnd, hD, hb, hR => by
    obtain ⟨h1, h2⟩ := hD D (List.mem_cons_self ..)
    refine ⟨by simp, .inl ⟨D, _, rfl, run_takeDeferred h2, ?_⟩⟩
    refine leave_marks w Ds _ (List.nodup_cons.1 hnd).2 (fun D' h' => ?_) (below_put hb D _ h1) (fun W' hb' hs => ?_)
    · obtain ⟨g1, g2⟩ := hD D' (List.mem_cons_of_mem _ h')
      exact ⟨g1, (World.putObj_heap_other (fun e : D' = D => (List.nodup_cons.1 hnd).1 (by rw [← e]; exact h'))).trans g2⟩
    · refine hR W' hb' (fun k hk => ?_)
      exact (hs k (fun h => hk (List.mem_cons_of_mem _ h))).trans (World.putObj_heap_other (fun e : k = D => hk (by rw [e]; exact List.mem_cons_self ..)))
/-- Between two rounds. -/
structure TlS (w : World) (N : Nat) (Ds : List Nat) (it vw : Value) (W : World) : Prop where
  kb : Blk W N #[it, vw] KPT
  rb : ∃ b, Blk W (N + 1) #[.bool b] BT
  bel : Below N w W
  nd : Ds.Nodup
  df : ∀ D ∈ Ds, N ≤ D ∧ W.heap[D]? = some (.deferred (some []))
section
variable {w W W' : World} {N : Nat} {Ds : List Nat} {it vw : Value}
theorem TlS.sz (h : TlS w N Ds it vw W) : N + 2 ≤ W.heap.size := by obtain ⟨b, h1⟩ := h.rb; have := Blk.lt h1; omega
theorem TlS.below (h : TlS w N Ds it vw W) (hb : Below W.heap.size W W') : TlS w N Ds it vw W' := by
  obtain ⟨b, h1⟩ := h.rb
  exact ⟨h.kb.below hb h.kb.lt, ⟨b, h1.below hb h1.lt⟩, h.bel.trans (hb.mono (by have := h.sz; omega)), h.nd, fun D hD => ⟨(h.df D hD).1, heap_grows hb (h.df D hD).2⟩⟩
theorem TlS.kept {C : Nat} {row : Option Nat} (h : TlS w N Ds it vw W) (hC : N ≤ C) (hg : W.grownBy W' row) (hr : ∀ r, row = some r → C ≤ r ∧ ∃ o : Obj, W.heap[r]? = some o ∧ o.isCells = false) (hD : ∀ D ∈ Ds, row ≠ some D) : TlS w N Ds it vw W' := by
  have hr2 : ∀ r, row = some r → ∃ o : Obj, W.heap[r]? = some o ∧ o.isCells = false := fun r e => (hr r e).2
  have hs := h.sz
  obtain ⟨b, h1⟩ := h.rb
  exact ⟨Blk.keptRowK h.kb hg hr2, ⟨b, Blk.keptRowK h1 hg hr2⟩,
    ⟨hg.os.trans h.bel.os, hg.tape.trans h.bel.tape, hg.output.trans h.bel.output, Nat.le_trans h.bel.size hg.size, fun i hi => (hg.block i (by omega) (fun e => by have := (hr i e.symm).1; omega)).trans (h.bel.block i hi)⟩,
    h.nd, fun D hDm => ⟨(h.df D hDm).1, (hg.block D (Array.getElem?_eq_some_iff.1 (h.df D hDm).2).1 (fun e => hD D hDm e.symm)).trans (h.df D hDm).2⟩⟩
theorem TlS.putLoop (h : TlS w N Ds it vw W) {l : Nat} {q : Loop} (hl : W.heap[l]? = some (.loop q)) (o' : Obj) (hN : N ≤ l) : TlS w N Ds it vw (W.putObj l o') :=
  h.kept hN (grownBy_putObj' W l o') (fun r e => by cases e; exact ⟨Nat.le_refl _, _, hl, rfl⟩) (fun D hm e => by
    have := (h.df D hm).2
    rw [← Option.some.inj e, hl] at this
    cases this)
/-- Within a walk that counts. -/
def TlI (w : World) (N : Nat) (Ds : List Nat) (it vw : Value) (ib : Nat) (pre : List K32) (W : World) : Prop := TlS w N Ds it vw W ∧ N + 2 ≤ ib ∧ Blk W ib #[.int .i64 (pre.length : Int)] INT
theorem TlI.own {ib C : Nat} (hC : N ≤ C) (hD : ∀ D ∈ Ds, D < C) : OwnFrom C (fun pre W => TlI w N Ds it vw ib pre W) :=
  fun s A B row ⟨h, h0, h1⟩ hg hr => ⟨h.kept hC hg hr (fun D hm e => by have := (hr D e).1; have := hD D hm; omega), h0, Blk.keptRowK h1 hg (fun r e => (hr r e).2)⟩
theorem TlS.own {C : Nat} (hC : N ≤ C) (hD : ∀ D ∈ Ds, D < C) : OwnFrom C (fun (_ : List K32) W => TlS w N Ds it vw W) :=
  fun s A B row h hg hr => h.kept hC hg hr (fun D hm e => by have := (hr D e).1; have := hD D hm; omega)
/-- One more is counted. -/
theorem TlI.count {ib g : Nat} {pre : List K32} {x : K32} (h : TlI w N Ds it vw ib pre W) (hg0 : g ≠ ib) : TlI w N Ds it vw ib (pre ++ [x]) (W.setCell ⟨ib, 0, none⟩ (.int .i64 (((pre ++ [x]).length : Nat) : Int))) ∧ KeepsLD W (W.setCell ⟨ib, 0, none⟩ (.int .i64 (((pre ++ [x]).length : Nat) : Int))) ∧ KeepR g W (W.setCell ⟨ib, 0, none⟩ (.int .i64 (((pre ++ [x]).length : Nat) : Int))) := by
  obtain ⟨h1, h2, h3⟩ := h
  have hg := grownBy_set W ib 0 (.int .i64 (((pre ++ [x]).length : Nat) : Int))
  have hs := h1.sz
  have kl : KeepsLD W (W.setCell ⟨ib, 0, none⟩ (.int .i64 (((pre ++ [x]).length : Nat) : Int))) := KeepsLD.grown hg (fun q e => by have h := h3; unfold Blk at h; rw [h] at e; cases e) (fun q e => by have h := h3; unfold Blk at h; rw [h] at e; cases e)
  have ne : ∀ b, b ≠ ib → some b ≠ some ib := fun b hb e => hb (Option.some.inj e)
  obtain ⟨b, hb⟩ := h1.rb
  refine ⟨⟨⟨h1.kb.grown hg (ne _ (by omega)), ⟨b, hb.grown hg (ne _ (by omega))⟩, ?_, h1.nd, fun D hD => ⟨(h1.df D hD).1, kl.df _ _ (h1.df D hD).2⟩⟩, h2, h3.set 0 _⟩, kl, KeepR.grown hg (fun e => hg0 (Option.some.inj e).symm)⟩
  exact ⟨hg.os.trans h1.bel.os, hg.tape.trans h1.bel.tape, hg.output.trans h1.bel.output, Nat.le_trans h1.bel.size hg.size, fun i hi => (hg.block i (by omega) (ne _ (by omega))).trans (h1.bel.block i hi)⟩
theorem tl_made (w : World) (it vw : Value) : TlS w w.heap.size [] it vw ((w.alloc (.cells #[it, vw] KPT)).alloc (.cells #[.bool false] BT)) :=
  ⟨(Blk.made w _ _).alloc _, ⟨false, blk_made1 w _ _ _ _⟩, ((Below.refl _ w).alloc (Nat.le_refl _) _).alloc (by simp) _, List.nodup_nil, fun D hD => by cases hD⟩
theorem tl_end {fn : Func} (hres : fn.results = #[.cell 2 BT]) {tmps : Array Value} {w4 : World} (hS : TlS w N Ds it vw W) (h4 : Blk w4 (N + 1) #[.bool true] BT) (hg : W.grownBy w4 (some (N + 1))) (h2 : tmps.getD 2 undef = .pointer (some ⟨N + 1, 0, none⟩)) (hN : N = w.heap.size) :
    bodyPostM Fence.wide 5 Try.prog fn (fun e w' => e = .returned (.bool true) ∧ Below w.heap.size w w') .ret { tmps := tmps, defers := marks Ds } w4 := by
  have hs := hS.sz
  obtain ⟨b, hb⟩ := hS.rb
  have hne : ∀ D ∈ Ds, D ≠ N + 1 := fun D hD e => by
    have h2 := (hS.df D hD).2
    have h3 := hb
    unfold Blk at h3
    rw [e, h3] at h2
    cases h2
  refine leave_marks (N := N) w Ds w4 hS.nd (fun D hD => ⟨(hS.df D hD).1, ?_⟩) ?_ (fun W' hb hs => ?_)
  · exact (hg.block D (Array.getElem?_eq_some_iff.1 (hS.df D hD).2).1 (fun e => hne D hD (Option.some.inj e))).trans (hS.df D hD).2
  · exact ⟨hg.os.trans hS.bel.os, hg.tape.trans hS.bel.tape, hg.output.trans hS.bel.output, Nat.le_trans hS.bel.size hg.size, fun i hi => (hg.block i (by omega) (fun e => by have := Option.some.inj e; omega)).trans (hS.bel.block i hi)⟩
  · have hr : Blk W' (N + 1) #[.bool true] BT := (hs (N + 1) (fun h => hne _ h rfl)).trans h4
    refine ⟨_, results_cell hres tmps W' ⟨N + 1, 0, none⟩ h2 (.bool true) ?_, rfl, by rw [← hN]; exact hb⟩
    have hc : W'.cell? ⟨N + 1, 0, none⟩ = some (.bool true) := by rw [hr.cell]; rfl
    simp [loadVar, go_sem, hc, Try.underlying4]
end
theorem run_nilF {op : Oper} {ev : Operand → Value} {x : Operand} {lb : Nat} (ho : op.op = .binOp .eql 42 x (.const .nilFunc) 42) (hx : ev x = riF lb) (hc : ev (.const .nilFunc) = .nilFunc) (w : World) : (execOp ev op).run Try.prog w = .ok (.value (.bool false)) w := by
  simp only [execOp, ho, hx, hc]
  kernel_rfl
/-- An iterator that tells keys, rising. -/
def ItK (w : World) (bx : Nat) (ks : List (List UInt8)) : Prop := ∃ ao cap, Blk w bx #[.slice ao ks.length cap] 39 ∧ KRow w ao ks
theorem ItK.below {w w' : World} {bx : Nat} {ks : List (List UInt8)} (h : ItK w bx ks) (hb : Below w.heap.size w w') : ItK w' bx ks := by
  obtain ⟨ao, cap, h1, h2⟩ := h
  exact ⟨ao, cap, h1.below hb h1.lt, h2.below hb⟩
theorem krow_gof {w : World} {ao : Option Addr} {ks : List (List UInt8)} (h : KRow w ao ks) (h0 : ks ≠ []) : gOf ao < w.heap.size := by
  have hl : 0 < ks.length := List.length_pos_iff.2 h0
  obtain ⟨g, o, rfl, hr⟩ := h.at' 0 hl
  have h32 := h.len _ (List.getElem_mem hl)
  have := hr 0 _ (by rw [List.getElem?_eq_getElem (by simp; omega)])
  exact World.block_lt_of_cell? w _ this
theorem tells_any (w : World) {lb : Nat} {ks : List (List UInt8)} {ao : Option Addr} {n c : Nat} (hit : ItK w lb ks) (hvw : KRow w ao ks) (hnV : n = ks.length) (hl : ks.length ≤ 4398046511104) : Calls Try.prog 10 #[.agg #[riF lb, .slice ao n c]] w fun e w' => e = .returned (.bool true) ∧ Below w.heap.size w w' := by
  obtain ⟨N, hN⟩ : ∃ N, N = w.heap.size := ⟨_, rfl⟩
  obtain ⟨ar, cr, hlb, hrw⟩ := hit
  have HN := hide hN
  have HFit : Hid (∀ W, Below N w W → Blk W lb #[.slice ar ks.length cr] 39 ∧ KRow W ar ks) := hide (fun W hb => by rw [hN] at hb; exact ⟨hlb.below hb hlb.lt, hrw.below hb⟩)
  have HFW : Hid (∀ W, Below N w W → KRow W ao ks) := hide (fun W hb => by rw [hN] at hb; exact hvw.below hb)
  have HGO : Hid (ks ≠ [] → gOf ar < N) := hide (fun h => by rw [hN]; exact krow_gof hrw h)
  have HNV := hide hnV
  have HVL := hide hl
  clear hlb hrw hvw hl hnV
  refine (callsIn_wide (n := 5)).1 ?_
  refine callsIn_of_wp_marks Try.func10 rfl trivial ?_ rfl
  refine wpIn_wide.2 ?_
  simp only [Try.ntmps10, List.size_toArray, List.length_cons, List.length_nil, Nat.reduceAdd, Nat.reduceSub, Array.replicate_succ, Array.replicate_zero, List.push_toArray, List.append_toArray, List.nil_append, List.cons_append]
  unfold riF
  go_upto_region 1 with fail
  refine name_worldK (fun W => TlS w N [] (riF lb) (.slice ao n c) W) (by rw [hN]; exact tl_made w _ _) ?_
  rintro W hS
  rw [← hN]
  have HS0 := hide hS
  have cA : W.cell? ⟨N, 0, none⟩ = some (.func (.func 36) #[] #[.pointer (some ⟨lb, 0, none⟩)]) := by rw [hS.kb.cell]; rfl
  have lA := hS.kb.lt
  clear hS hN
  go_upto_region 3 with (refine wpList_val (.bool false) (by rfl) (run_nilF (x := .tmp 7) (lb := lb) (by rfl) (by rfl) (by rfl) _) ?_)
  clear cA lA
  go_upto_region 4 with fail
  refine wp_loop (fun a' w' => ∃ (r : Nat) (Ds : List Nat) (u4 u5 u6 u7 u8 u9 u10 u11 u12 u13 u14 u15 u16 u17 u18 u19 u20 u21 u22 u23 u24 u25 u26 u27 u28 u29 u30 u31 u32 u33 u34 u35 u36 u37 u38 u39 : Value), a' = { tmps := #[.agg #[.func (.func 36) #[] #[.pointer (some ⟨lb, 0, none⟩)], .slice ao n c], .pointer (some ⟨N, 0, none⟩), .pointer (some ⟨N + 1, 0, none⟩), .int .i64 (r : Int), u4, u5, u6, u7, u8, u9, u10, u11, u12, u13, u14, u15, u16, u17, u18, u19, u20, u21, u22, u23, u24, u25, u26, u27, u28, u29, u30, u31, u32, u33, u34, u35, u36, u37, u38, u39], defers := marks Ds } ∧ r ≤ 2 ∧ TlS w N Ds (riF lb) (.slice ao n c) w') (fun a' _ => 2 - (intOf (a'.tmps.getD 3 undef)).toNat) ?_ ?_
  · exact ⟨0, [], _, _, _, _, _, _, _, _, _, _, _, _, _, _, _, _, _, _, _, _, _, _, _, _, _, _, _, _, _, _, _, _, _, _, _, _, rfl, by omega, HS0.out⟩
  · rintro a' wr ⟨r, Ds, u4, u5, u6, u7, u8, u9, u10, u11, u12, u13, u14, u15, u16, u17, u18, u19, u20, u21, u22, u23, u24, u25, u26, u27, u28, u29, u30, u31, u32, u33, u34, u35, u36, u37, u38, u39, rfl, hr, hS⟩
    clear HS0
    have HS := hide hS
    clear hS
    by_cases hlt : r < 2
    · have hji : (r : Int) < 2 := by omega
      go_upto_region 7 with fail
      have HIB : Hid (TlI w N Ds (riF lb) (.slice ao n c) wr.heap.size [] (wr.alloc (.cells #[.int .i64 0] INT))) := hide ⟨HS.out.below (below_alloc wr _), HS.out.sz, Blk.made wr _ _⟩
      obtain ⟨ib, hib⟩ : ∃ ib, ib = wr.heap.size := ⟨_, rfl⟩
      rw [← hib] at HIB ⊢
      obtain ⟨w3, hw3⟩ : ∃ w3, w3 = wr.alloc (.cells #[.int .i64 0] INT) := ⟨_, rfl⟩
      rw [← hw3] at HIB ⊢
      clear HS hib hw3
      have cA : w3.cell? ⟨N, 0, none⟩ = some (.func (.func 36) #[] #[.pointer (some ⟨lb, 0, none⟩)]) := by rw [HIB.out.1.kb.cell]; rfl
      have lA := HIB.out.1.kb.lt
      go_upto_region 8 with fail
      clear cA lA
      have HDl : Hid (∀ D ∈ Ds, D < w3.heap.size) := hide (fun D hD => (Array.getElem?_eq_some_iff.1 (HIB.out.1.df D hD).2).1)
      have HNl : Hid (N ≤ w3.heap.size) := hide (by have := HIB.out.1.sz; omega)
      obtain ⟨hbF, hoF⟩ := HFit.out w3 HIB.out.1.bel
      have HSq := hide (rising_fit (5 - 1) w3 lb ar cr ks hbF hoF HVL.out)
      clear hbF hoF
      refine (wpIn_wide (n := 5)).1 ?_
      generalize hA0 : Act.mk _ _ = A0
      refine wpIn_rangeKl rfl (by omega) (gf := 36) (lb := #[.pointer (some ⟨lb, 0, none⟩)]) (by rw [← hA0]; rfl) trivial (enters_of Try.func36 (by kernel_rfl) rfl) HSq.out (Below.refl _ _) (KeepR.keeping (gOf ar)) (fun _ => rfl)
        (fun pre W => TlI w N Ds (riF lb) (.slice ao n c) ib pre W)
        (fun _ _ _ => False)
        (TlI.own HNl.out HDl.out)
        (fun _ _ _ _ _ h => h.elim)
        HIB.out (fun A B h => KeepR.below h) ?round ?done ?stop
      case stop => exact fun D c pre W3 hD h => h.elim
      case done =>
        rintro D xs W4 hD hxs ⟨hS4, hn4, hI4⟩ hK4
        have hx : xs.map Subtype.val = ks := hxs
        have hxl : xs.length = n := by rw [HNV.out, ← hx, List.length_map]
        have HS5 : Hid (TlS w N (D :: Ds) (riF lb) (.slice ao n c) W4) := hide ⟨hS4.kb, hS4.rb, hS4.bel, List.nodup_cons.2 ⟨fun h => by have := HDl.out D h; omega, hS4.nd⟩, fun D' h' => by
          rcases List.mem_cons.1 h' with rfl | h'
          · exact ⟨by have := HNl.out; omega, hK4⟩
          · exact hS4.df D' h'⟩
        have cI : W4.cell? ⟨ib, 0, none⟩ = some (.int .i64 (n : Int)) := by rw [hI4.cell, hxl]; rfl
        have lI := hI4.lt
        have cB : W4.cell? ⟨N, 1, none⟩ = some (.slice ao n c) := by rw [hS4.kb.cell]; rfl
        have cA : W4.cell? ⟨N, 0, none⟩ = some (.func (.func 36) #[] #[.pointer (some ⟨lb, 0, none⟩)]) := by rw [hS4.kb.cell]; rfl
        have lA := hS4.kb.lt
        clear hS4 hxs hK4 hD hn4 hI4 hx hxl
        subst hA0
        have hn41 : n ≤ 4398046511104 := by rw [HNV.out]; exact HVL.out
        go_wp2_with fail
        clear cI lI cB cA lA hn41
        have HDl2 : Hid (∀ D' ∈ D :: Ds, D' < W4.heap.size) := hide (fun D' hD' => (Array.getElem?_eq_some_iff.1 (HS5.out.df D' hD').2).1)
        have HNl2 : Hid (N ≤ W4.heap.size) := hide (by have := HS5.out.sz; omega)
        obtain ⟨hbF, hoF⟩ := HFit.out W4 HS5.out.bel
        have HSq2 := hide (rising_fit (5 - 1) W4 lb ar cr ks hbF hoF HVL.out)
        clear hbF hoF
        refine (wpIn_wide (n := 5)).1 ?_
        generalize hA1 : Act.mk _ _ = A1
        refine wpIn_rangeKl rfl (by omega) (gf := 36) (lb := #[.pointer (some ⟨lb, 0, none⟩)]) (by rw [← hA1]; rfl) trivial (enters_of Try.func36 (by kernel_rfl) rfl) HSq2.out (Below.refl _ _) (KeepR.keeping (gOf ar)) (fun _ => rfl)
          (fun _ W => TlS w N (D :: Ds) (riF lb) (.slice ao n c) W)
          (fun cc _ W => cc = .exit 4 ∧ TlS w N (D :: Ds) (riF lb) (.slice ao n c) W)
          (TlS.own HNl2.out HDl2.out)
          (fun cc s A B row h hg hr => ⟨h.1, TlS.own HNl2.out HDl2.out s A B row h.2 hg hr⟩)
          HS5.out (fun A B h => KeepR.below h) ?round2 ?done2 ?stop2
        case round2 =>
          rintro l pre x Wp W1 hS1 hbW hfit
          have HC1 := hide (hS1.below hbW)
          clear hS1 hbW hfit
          refine ⟨fun _ W₂ => W₂ = W1, ?asg2, ?bd2⟩
          case asg2 =>
            intro K hK
            gi_wp2
            exact hK _ _ rfl (Below.refl _ _)
          case bd2 =>
            rintro a₁ W₂ q' o' rfl hb2 hlo hle
            have hC3 := HC1.out.putLoop hlo o' (by have := HNl2.out; omega)
            gi_wp2
            exact ⟨KeepsLD.below (Below.refl _ _), rfl, hC3⟩
        case stop2 =>
          rintro D2 cc pre W5 hD2 ⟨rfl, hS6⟩ hK5
          have HS6 : Hid (TlS w N (D2 :: D :: Ds) (riF lb) (.slice ao n c) W5) := hide ⟨hS6.kb, hS6.rb, hS6.bel, List.nodup_cons.2 ⟨fun h => by have := HDl2.out D2 h; omega, hS6.nd⟩, fun D' h' => by
            rcases List.mem_cons.1 h' with rfl | h'
            · exact ⟨by have := HNl2.out; omega, hK5⟩
            · exact hS6.df D' h'⟩
          clear hS6 hK5 hD2
          subst hA1
          refine wpIn_wide.2 ?_
          go_wp2
          refine ⟨⟨r + 1, D2 :: D :: Ds, _, _, _, _, _, _, _, _, _, _, _, _, _, _, _, _, _, _, _, _, _, _, _, _, _, _, _, _, _, _, _, _, _, _, _, _, rfl, by omega, HS6.out⟩, ?_⟩
          simp [intOf]
          omega
        case done2 =>
          rintro D2 xs2 W5 hD2 hxs2 hS6 hK5
          have HS6 : Hid (TlS w N (D2 :: D :: Ds) (riF lb) (.slice ao n c) W5) := hide ⟨hS6.kb, hS6.rb, hS6.bel, List.nodup_cons.2 ⟨fun h => by have := HDl2.out D2 h; omega, hS6.nd⟩, fun D' h' => by
            rcases List.mem_cons.1 h' with rfl | h'
            · exact ⟨by have := HNl2.out; omega, hK5⟩
            · exact hS6.df D' h'⟩
          clear hS6 hK5 hD2 hxs2
          subst hA1
          go_wp2
          refine ⟨⟨r + 1, D2 :: D :: Ds, _, _, _, _, _, _, _, _, _, _, _, _, _, _, _, _, _, _, _, _, _, _, _, _, _, _, _, _, _, _, _, _, _, _, _, _, rfl, by omega, HS6.out⟩, ?_⟩
          simp [intOf]
          omega
      case round =>
        rintro l pre x Wp W1 hS1 hbW hfit
        have hC1 : TlI w N Ds (riF lb) (.slice ao n c) ib pre W1 := ⟨hS1.1.below hbW, hS1.2.1, hS1.2.2.below hbW hS1.2.2.lt⟩
        have HC1 := hide hC1
        have HPF : Hid (((pre ++ [x]).map Subtype.val) <+: ks) := hide hfit
        have HX := hide x.2
        clear hS1 hbW hfit hC1
        refine ⟨fun a₁ W₂ => a₁ = { tmps := (A0.tmps.setIfInBounds 15 (keyV x.1)).setIfInBounds 5 (.pointer (some ⟨W1.heap.size, 0, none⟩)), defers := [] } ∧ KeyAt W₂ W1.heap.size x.1, ?asg, ?bd⟩
        case asg =>
          intro K hK
          have hzk := zero_key
          subst hA0
          unfold keV
          simp only [List.zip_toArray, List.zip_cons_cons, List.zip_nil_right, List.foldl_toArray, List.foldl_cons, List.foldl_nil, List.setIfInBounds_toArray, List.set_cons_succ, List.set_cons_zero]
          gi_wp2_with ((with_reducible refine wpListIn_put_keyK ?_ (.tmp 5) (.tmp 15) ?_ W1.heap.size ?_ W1 ?_ ?_ x.1 HX.out ?_ ?_); rfl; rfl; rfl; rfl; rfl; rfl; intro w2 HK2 hb2)
          exact hK _ _ ⟨rfl, HK2.out⟩ hb2
        case bd =>
          rintro a₁ W₂ q' o' ⟨rfl, hk⟩ hb2 hlo hle
          have hne : W1.heap.size ≠ l := fun e => by
            have h1 := hk.1
            unfold Blk at h1
            rw [e, hlo] at h1
            cases h1
          have hne3 : ib ≠ l := fun e => by
            have h1 := HC1.out.2.2.below hb2 HC1.out.2.2.lt
            unfold Blk at h1
            rw [e, hlo] at h1
            cases h1
          have hC3 : TlI w N Ds (riF lb) (.slice ao n c) ib pre (W₂.putObj l o') := ⟨(HC1.out.1.below hb2).putLoop hlo o' (by have := HNl.out; omega), HC1.out.2.1, (World.putObj_heap_other hne3).trans (HC1.out.2.2.below hb2 HC1.out.2.2.lt)⟩
          have hk3 : KeyAt (W₂.putObj l o') W1.heap.size x.1 := ⟨(World.putObj_heap_other hne).trans hk.1, hk.2⟩
          refine name_worldInK' (fun U => TlI w N Ds (riF lb) (.slice ao n c) ib pre U ∧ KeyAt U W1.heap.size x.1) ⟨hC3, hk3⟩ ?_
          rintro U ⟨hCV, hKV⟩
          clear hC3 hne hne3 hk3 hk hb2 hlo hle
          have HCV := hide hCV
          have HKV := hide hKV
          obtain ⟨i, hi⟩ : ∃ i, i = pre.length := ⟨_, rfl⟩
          have HI := hide hi
          have hVz : ks[i]? = some x.1 := by
            obtain ⟨t, ht⟩ := HPF.out
            rw [← ht, hi, List.getElem?_append_left (by simp), List.map_append, List.getElem?_append_right (by simp)]
            simp
          have hil : i < ks.length := (List.getElem?_eq_some_iff.1 hVz).1
          have hin : i < n := by rw [HNV.out]; exact hil
          have HGN : Hid (gOf ar ≠ ib) := hide (fun e => by have h1 := HGO.out (fun e2 => by rw [e2] at hil; exact Nat.not_lt_zero _ hil); have h2 := hCV.2.1; omega)
          have hpi : (i : Int) < (n : Int) := by omega
          have hin2 : decide (n ≤ i) = false := by simp; omega
          have hn41 : n ≤ 4398046511104 := by rw [HNV.out]; exact HVL.out
          have hrz0 := (HFW.out U hCV.1.bel).at' i hil
          rw [(List.getElem?_eq_some_iff.1 hVz).2] at hrz0
          obtain ⟨g, o, rfl, hrz⟩ := hrz0
          have cI := fun d os => cell_regrown (show U.cell? ⟨ib, 0, none⟩ = some (.int .i64 (i : Int)) by rw [hCV.2.2.cell, hi]; rfl) d os
          have cB := fun d os => cell_regrown (show U.cell? ⟨N, 1, none⟩ = some (.slice (some ⟨g, o, none⟩) n c) by rw [hCV.1.kb.cell]; rfl) d os
          have HRK := hide (range_regrown hrz)
          have HBK := hide (range_regrown (range_blk hKV.1))
          clear hCV hKV HC1 hi hVz hrz hil
          subst hA0
          simp only [List.setIfInBounds_toArray, List.set_cons_succ, List.set_cons_zero]
          gi_wp2
          refine wpIn_round_quiet (by kernel_rfl) (by kernel_rfl) (by kernel_rfl) ?_
          iterate 6 quiet_step (fail)
          refine wpQuiet_val (keyV x.1) rfl (fun w0 hw => ?_) ?_
          · obtain ⟨p0, rfl⟩ := hw
            exact run_loadK rfl rfl HX.out (HBK.out _ _)
          iterate 4 quiet_step (fail)
          refine wpQuiet_val (keyV x.1) rfl (fun w0 hw => ?_) ?_
          · obtain ⟨p0, rfl⟩ := hw
            exact run_loadK rfl rfl HX.out (HRK.out _ _)
          refine wpQuiet_val (.bool false) rfl (fun w0 _ => (run_neqKK (a := x.1) (b := x.1) rfl rfl rfl HX.out HX.out w0).trans (by simp)) ?_
          quiet_step (fail)
          refine wpQuiet_nil ?_
          intro U1 hU1
          have hb1 : RowKit.Below U.heap.size U U1 := below_of hU1
          have HB1 := hide hb1
          have HC4 : Hid (TlI w N Ds (riF lb) (.slice (some ⟨g, o, none⟩) n c) ib pre U1) := hide ⟨HCV.out.1.below hb1, HCV.out.2.1, HCV.out.2.2.below hb1 HCV.out.2.2.lt⟩
          clear hU1 hb1 cI cB HRK HBK HCV HKV
          have cI : U1.cell? ⟨ib, 0, none⟩ = some (.int .i64 (i : Int)) := by rw [HC4.out.2.2.cell, HI.out]; rfl
          have fI := HC4.out.2.2.frozen 0
          have lI := HC4.out.2.2.lt
          gi_wp2
          have hc := HC4.out.count (x := x) HGN.out
          have e1 : (((pre ++ [x]).length : Nat) : Int) = (i : Int) + 1 := by rw [List.length_append, List.length_singleton, ← HI.out]; rfl
          rw [e1] at hc
          exact ⟨(KeepsLD.below HB1.out).trans hc.2.1, (KeepR.below HB1.out).trans hc.2.2, hc.1⟩
    · obtain rfl : r = 2 := by omega
      have hji : ¬ ((2 : Nat) : Int) < 2 := by decide
      obtain ⟨b, hb⟩ := HS.out.rb
      have cR : wr.cell? ⟨N + 1, 0, none⟩ = some (.bool b) := by rw [hb.cell]; rfl
      have fR := hb.frozen 0
      have lR := hb.lt
      have HR4 : Hid (Blk (wr.setCell ⟨N + 1, 0, none⟩ (.bool true)) (N + 1) #[.bool true] BT) := hide (hb.set 0 (.bool true))
      clear hb
      go_wp2
      exact tl_end rfl HS.out HR4.out (grownBy_set _ _ _ _) rfl HN.out
end Go.Proofs.Ytnloglecfbhpcaa
