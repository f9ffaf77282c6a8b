/- End: how far records stand. -/
import Derived.Test.YtbnedlcldfpfdaaRF3
namespace Go.Proofs.Ytbnedlcldfpfdaa
set_option linter.unusedVariables false
set_option linter.unusedSimpArgs false
open Go.RowKit Go.Shelf
attribute [local go_sem] Oper.semAt_some

/-- The error of what stands behind the last record. -/
def endE (bs : List UInt8) (k : Nat) : Nat := if plc bs k = bs.length then 0 else (upk (bs.drop (plc bs k))).2.2
def EndC (w : World) (bs : List UInt8) (e : Ending) (w' : World) : Prop := ∃ k, (∀ j, j < k → okR bs j) ∧ ¬ okR bs k ∧ e = .returned (.tuple #[.int .i64 ((plc bs k : Nat) : Int), .int .i64 ((endE bs k : Nat) : Int)]) ∧ Below w.heap.size w w'
theorem allFit_put (bs : List UInt8) (pre : List Rec) (x : Rec) (A B : World) (l : Nat) (o o' : Obj) (h : allFit bs pre x A B) (hl : A.heap[l]? = some o) (ho : o.isCells = false) : allFit bs pre x (A.putObj l o') (B.putObj l o') := by
  obtain ⟨h1, h2, h3, h4⟩ := h
  refine ⟨h1, h2, h3, ?_⟩
  rw [World.putObj_size]
  obtain ⟨hz, ⟨e1, e2⟩ | ⟨g, cap, cur, e, hb, hg, hr⟩⟩ := h4
  · exact ⟨hz, .inl ⟨e1, e2⟩⟩
  · have hlt : l < A.heap.size := (Array.getElem?_eq_some_iff.1 hl).1
    refine ⟨hz, .inr ⟨g, cap, cur, e, hb, ?_, hr⟩⟩
    rw [World.putObj_heap_other (by omega)]
    exact hg
theorem Blk.keptRow {W W' : World} {b : Nat} {cs : Array Value} {t : TypeId} {row : Option Nat} (h : Blk W b cs t) (hg : W.grownBy W' row) (hr : ∀ r, row = some r → ∃ o : Obj, W.heap[r]? = some o ∧ o.isCells = false) : Blk W' b cs t :=
  (grownBy_keeps_cells hg hr h rfl).trans h
theorem blk_ownFrom {β : Type} (B b : Nat) (t : TypeId) (f : β → Array Value) : OwnFrom B (fun s W => Blk W b (f s) t) :=
  fun s A C row hs hg hr => Blk.keptRow hs hg (fun r e => (hr r e).2)
theorem snoc_len {α : Type} (l : List α) (x : α) : (l ++ [x]).length = l.length + 1 := by simp
set_option maxRecDepth 20000 in
set_option maxHeartbeats 1600000 in
theorem end_any (w : World) (v : Value) (bs : List UInt8) (hv : RdA w v bs) (hl : bs.length ≤ 140737488355000) : Calls Try.prog 17 #[v] w (EndC w bs) := by
  have HV := hide hv
  obtain ⟨ao, c, rfl, -⟩ := hv.slice
  clear hv
  refine (callsIn_wide (n := 5)).1 ?_
  refine callsIn_of_wp_marks Try.func17 rfl trivial ?_ rfl
  simp only [Try.ntmps17, List.size_toArray, List.length_cons, List.length_nil, Nat.reduceAdd, Nat.reduceSub, Array.replicate_succ, Array.replicate_zero, List.push_toArray, List.append_toArray, List.nil_append, List.cons_append]
  have HB0 := hide ((Below.refl w.heap.size w).alloc (Nat.le_refl _) (.cells #[.int .i64 0] 3))
  have HK0 := hide (Blk.made w #[.int .i64 0] 3)
  gi_wp2
  refine ⟨trivial, ?_⟩
  refine (callsIn_wide.2 (all_any _ _ bs (HV.out.below HB0.out) hl)).mono ?_
  rintro e w1 ⟨z, v1, rfl, hz, hr1, hzl, hb1⟩
  have HB1 := hide (HB0.out.trans (hb1.mono HB0.out.size))
  have HK1 := hide (HK0.out.below hb1 HK0.out.lt)
  have HSZ : Hid (w.heap.size < w1.heap.size) := hide HK1.out.lt
  have HZ := hide hz
  have HR1 : Hid (OwnsB w1 (w.heap.size + 1) v1 bs) := hide (by simpa using hr1)
  have HZL : Hid (w.heap.size + 1 ≤ z) := hide (by simpa using hzl)
  clear hz hr1 hzl hb1 HB0 HK0
  unfold allV
  gi_wp2
  refine wpIn_rangeFit rfl (by omega) (gf := 34) (lb := #[.pointer (some ⟨z, 0, none⟩)]) rfl trivial (enters_of Try.func34 (by kernel_rfl) rfl) (all_fit (5 - 1) w1 z (w.heap.size + 1) v1 bs HZ.out HZL.out HR1.out) (Below.refl _ _) (Nat.le_refl _) (fun _ => rfl) (allFit_put bs)
    (fun pre W => Blk W w.heap.size #[.int .i64 ((plc bs pre.length : Nat) : Int)] 3 ∧ Below w.heap.size w W) (fun _ _ _ => False)
    (OwnFrom.and (blk_ownFrom _ _ _ (fun pre : List Rec => #[.int .i64 ((plc bs pre.length : Nat) : Int)])) (ownFrom_below (Nat.le_refl _) HB1.out.size))
    (fun _ _ _ _ _ hs _ _ => hs) ⟨HK1.out, HB1.out⟩
    ?round ?done ?stop
  case round =>
    rintro l pre ⟨q, bd, vx⟩ Wp W ⟨hkp, hbp⟩ hbW ⟨f1, f2, f3, f4⟩
    dsimp only at f2 f3 f4
    subst f2 f3
    have hst := plc_step (f1 pre.length (Nat.le_refl _))
    obtain ⟨ao1, c1, rfl, -, -⟩ := f4.slice
    have hkW := hkp.below hbW hkp.lt
    have hc := hkW.cell 0
    have hf := hkW.frozen 0
    have HKs := hide (hkW.set 0 (.int .i64 ((plc bs (pre.length + 1) : Nat) : Int)))
    have hbk := Below.step hbp hbW
    have HBs : Hid (Below w.heap.size w (W.setCell ⟨w.heap.size, 0, none⟩ (.int .i64 ((plc bs (pre.length + 1) : Nat) : Int)))) := hide (hbk.setCell (by simp) _)
    obtain ⟨q, hq⟩ : ∃ q, q = plc bs pre.length := ⟨_, rfl⟩
    obtain ⟨m, hm⟩ : ∃ m, m = (bodyR bs pre.length).length := ⟨_, rfl⟩
    obtain ⟨q2, hq2⟩ : ∃ q2, q2 = plc bs (pre.length + 1) := ⟨_, rfl⟩
    rw [← hq, ← hm, ← hq2] at hst
    rw [← hq2] at HKs HBs
    rw [← hq, ← hm]
    rw [← hq] at hc
    have hqs : (q : Int) + 10 + (m : Int) = (q2 : Int) := by omega
    have HQ2 := hide hq2
    have hlim : q + 10 + m ≤ 140737488355000 := by omega
    clear hst hkp hbp hbW f1 f4 hkW hbk hm hq2 hq
    refine ⟨?a1, ?asg, ?bd⟩
    case asg =>
      intro W0 K hK
      unfold recV
      gi_wp2
      exact hK
    case bd =>
      gi_wp2
      refine ⟨KeepsOthers.setCell _ _ _, KeepR.setCell W _ _ (.inl (Nat.lt_succ_self _)), ?_, HBs.out⟩
      rw [snoc_len, ← HQ2.out]
      exact HKs.out
  case done =>
    rintro D xs W hD ⟨hs1, hs2⟩ ⟨hkW, hbW⟩ hK
    have hc : W.cell? ⟨w.heap.size, 0, none⟩ = some (.int .i64 ((plc bs xs.length : Nat) : Int)) := hkW.cell 0
    have hple := plc_le xs.length hs1
    have HS1 := hide hs1
    have HS2 := hide hs2
    have HBW := hide hbW
    have HKD := hide hK
    have HDD : Hid (w.heap.size ≤ D) := hide (Nat.le_trans HB1.out.size hD)
    have HU := hide (unpack_any W _ bs (HV.out.below hbW) ((plc bs xs.length : Nat) : Int) (by omega))
    rw [unpk_at hple] at HU
    have HC1 : Hid (∀ W', Below w.heap.size w W' → EndC w bs (.returned (.tuple #[.int .i64 ((plc bs xs.length : Nat) : Int), .int .i64 ((endE bs xs.length : Nat) : Int)])) W') := hide (fun W' h => ⟨xs.length, HS1.out, HS2.out, rfl, h⟩)
    by_cases he : plc bs xs.length = bs.length
    · have HE : Hid (endE bs xs.length = 0) := hide (by unfold endE; rw [if_pos he])
      rw [HE.out] at HC1
      rw [he] at hc HC1
      have heb : ((bs.length : Int) == (bs.length : Int)) = true := beq_self_eq_true _
      clear hs1 hs2 hbW hK hkW hD HU he hple
      gi_wp2
      refine ⟨by simp, .inl ⟨_, _, rfl, run_takeDeferred HKD.out, ?_⟩⟩
      exact ⟨_, results_tmp2 (t := 2) (u := 3) rfl _ _ _, HC1.out (W.putObj D (.deferred none)) (below_put HBW.out D (.deferred none) HDD.out)⟩
    · have HE : Hid (endE bs xs.length = (upk (bs.drop (plc bs xs.length))).2.2) := hide (by unfold endE; rw [if_neg he])
      rw [HE.out] at HC1
      obtain ⟨q, hq⟩ : ∃ q, q = plc bs xs.length := ⟨_, rfl⟩
      have hne : ¬ (q : Int) = (bs.length : Int) := by omega
      have hneb : ((q : Int) == (bs.length : Int)) = false := beq_false_of_ne hne
      rw [← hq] at hc HC1 HU
      clear hs1 hs2 hbW hK hkW hD he hple hq
      gi_wp2
      refine ⟨trivial, ?_⟩
      refine (callsIn_wide.2 HU.out).mono ?_
      rintro e w3 ⟨v3, rfl, hO3, hb3⟩
      have hc3 : w3.cell? ⟨w.heap.size, 0, none⟩ = some (.int .i64 (q : Int)) := (hb3.cell (World.block_lt_of_cell? W _ hc)).trans hc
      have HB3 := hide (Below.step HBW.out hb3)
      have HK3 := hide (heap_grows hb3 HKD.out)
      obtain ⟨ao3, c3, rfl, -, -⟩ := hO3.slice
      clear hO3 hb3 HU HKD hc
      gi_wp2
      refine ⟨by simp, .inl ⟨_, _, rfl, run_takeDeferred HK3.out, ?_⟩⟩
      exact ⟨_, results_tmp2 (t := 2) (u := 3) rfl _ _ _, HC1.out (w3.putObj D (.deferred none)) (below_put HB3.out D (.deferred none) HDD.out)⟩
  case stop =>
    rintro D c pre W _ h _
    exact h.elim
end Go.Proofs.Ytbnedlcldfpfdaa
