/- All: what it hands back, and what it does with whatever rounds. -/
import Derived.Test.YtbnedlcldfpfdaaRF1
import Derived.Test.YtbnedlcldfpfdaaRF2
import Derived.Shelf.Abstract
import Derived.Shelf.RegionOpen
import Derived.WalkKit
import Derived.OwnWalkIn
import Derived.TacticsInMore
import Derived.LoopNIn
import Derived.LoopIn
namespace Go.Proofs.Ytbnedlcldfpfdaa
set_option linter.unusedVariables false
set_option linter.unusedSimpArgs false
open Go.RowKit Go.Shelf
attribute [local go_sem] Oper.semAt_some

/-- A record as it is told: where it begins, its body, the body's slice. -/
abbrev Rec := Nat × List UInt8 × Value
def recV (x : Rec) : Array Value := #[.int .i64 (x.1 : Int), x.2.2]
def allFit (bs : List UInt8) (pre : List Rec) (x : Rec) (Wp W : World) : Prop := (∀ j, j ≤ pre.length → okR bs j) ∧ x.1 = plc bs pre.length ∧ x.2.1 = bodyR bs pre.length ∧ OwnsB W Wp.heap.size x.2.2 x.2.1
def allS (bs : List UInt8) (xs : List Rec) : Prop := (∀ j, j < xs.length → okR bs j) ∧ ¬ okR bs xs.length
def allV (z : Nat) : Value := .func (.func 34) #[] #[.pointer (some ⟨z, 0, none⟩)]
def AllC (w : World) (bs : List UInt8) (e : Ending) (w' : World) : Prop := ∃ z v, e = .returned (allV z) ∧ Blk w' z #[v] 22 ∧ OwnsB w' w.heap.size v bs ∧ w.heap.size ≤ z ∧ Below w.heap.size w w'
theorem OwnsB.keepR {w w' : World} {lo : Nat} {v : Value} {xs : List UInt8} (h : OwnsB w lo v xs) (k : KeepR lo w.heap.size w w') : OwnsB w' lo v xs := by
  obtain ⟨hz, h1 | ⟨g, cap, cur, e, hb, hg, hr⟩⟩ := h
  · exact ⟨hz, .inl h1⟩
  · exact ⟨hz, .inr ⟨g, cap, cur, e, hb, (k.same g hb (Array.getElem?_eq_some_iff.1 hg).1).trans hg, hr⟩⟩
set_option maxRecDepth 20000 in
set_option maxHeartbeats 1600000 in
theorem all_any (w : World) (v : Value) (bs : List UInt8) (hv : RdA w v bs) (hl : bs.length ≤ 140737488355000) : Calls Try.prog 18 #[v] w (AllC w bs) := by
  have HC := hide (clone_any w v bs hv hl)
  obtain ⟨ao, c, rfl, -⟩ := hv.slice
  clear hv
  go_enter Try.func18, Try.ntmps18
  go_wp2_with fail
  refine HC.out.mono ?_
  rintro e w1 ⟨v1, rfl, hO, hb⟩
  obtain ⟨ao1, c1, rfl, -, -⟩ := hO.slice
  have HR := hide (hO.below ((Below.refl w1.heap.size w1).alloc (Nat.le_refl _) (.cells #[.slice ao1 bs.length c1] 22)))
  have HB := hide (hb.alloc hb.size (.cells #[.slice ao1 bs.length c1] 22))
  have HK := hide (Blk.made w1 #[.slice ao1 bs.length c1] 22)
  have HS := hide hb.size
  clear hO hb HC
  go_wp2
  go_ret
  exact ⟨_, _, rfl, HK.out, HR.out, HS.out, HB.out⟩
set_option maxRecDepth 20000 in
set_option maxHeartbeats 1600000 in
theorem all_fit (n : Nat) (w : World) (z lo : Nat) (v : Value) (bs : List UInt8) (hz : Blk w z #[v] 22) (hlo : lo ≤ z) (hv : OwnsB w lo v bs) : SeqFit Fence.wide n Try.prog 34 #[.pointer (some ⟨z, 0, none⟩)] recV lo w.heap.size (allS bs) (allFit bs) w := by
  intro l J Jx W hW hJ hJx hY h0
  refine callsIn_of_wp Try.func34 rfl trivial ?_ rfl
  simp only [Try.ntmps34, List.size_toArray, List.length_cons, List.length_nil, Nat.reduceAdd, Nat.reduceSub, Array.replicate_succ, Array.replicate_zero, List.push_toArray, List.append_toArray, List.nil_append, List.cons_append]
  have HY := hide hY
  have HZ := hide hz
  have HV := hide hv
  have HJ := hide hJ
  obtain ⟨ao, c, rfl, hvl⟩ := hv.slice
  have hW0 : KeepR lo w.heap.size w W := KeepR.below hW (Nat.le_refl _)
  clear hY hz hv hJ hJx hW
  gi_wp2
  gi_loopw [3] (fun p wr => ∃ (pre : List Rec), p = .int .i64 ((plc bs pre.length : Nat) : Int) ∧ (∀ j, j < pre.length → okR bs j) ∧ J pre wr ∧ KeepR lo w.heap.size w wr)
    (fun p _ => bs.length + 1 - (intOf p).toNat)
  case atStart => exact ⟨[], rfl, fun j hj => absurd hj (by simp), h0, hW0⟩
  case round =>
    clear h0 hW0
    obtain ⟨pre, rfl, hok, hJp, hbel⟩ := hrel
    have hple := plc_le pre.length hok
    have hcz : wr.cell? ⟨z, 0, none⟩ = some (.slice ao bs.length c) := (HZ.out.keepR hbel hlo HZ.out.lt).cell 0
    have HU := hide (unpack_any wr _ bs (HV.out.keepR hbel).rd ((plc bs pre.length : Nat) : Int) (by omega))
    rw [unpk_at hple] at HU
    have HOK := hide hok
    have HJp := hide hJp
    have HBl := hide hbel
    clear hok hJp hbel
    by_cases hk : okR bs pre.length
    · obtain ⟨eu, hul⟩ := upk_size hk
      have hst := plc_step hk
      have HB0 : Hid (bodyR bs pre.length = (upk (bs.drop (plc bs pre.length))).1) := hide rfl
      have HN0 : Hid (plc bs (pre.length + 1) = plc bs pre.length + (upk (bs.drop (plc bs pre.length))).2.1) := hide rfl
      have he0 : (upk (bs.drop (plc bs pre.length))).2.2 = 0 := hk
      obtain ⟨body, hbody⟩ : ∃ body, body = (upk (bs.drop (plc bs pre.length))).1 := ⟨_, rfl⟩
      obtain ⟨size, hsize⟩ : ∃ size, size = (upk (bs.drop (plc bs pre.length))).2.1 := ⟨_, rfl⟩
      have hs10 : 10 ≤ size := by rw [hsize, eu]; exact Nat.le_add_right _ _
      have hup : upk (bs.drop (plc bs pre.length)) = (body, size, 0) := by rw [hbody, hsize, ← he0]
      rw [hup] at HU HB0 HN0
      have HST := hide hst
      have HOK2 : Hid (∀ j, j < pre.length + 1 → okR bs j) := hide (fun j hj => by
        by_cases e : j = pre.length
        · rw [e]; exact hk
        · exact HOK.out j (by omega))
      have hsz : plc bs pre.length + size ≤ bs.length := by have := HST.out.2; rw [HN0.out] at this; exact this
      obtain ⟨q, hq⟩ : ∃ q, q = plc bs pre.length := ⟨_, rfl⟩
      rw [← hq] at HU HN0 hsz hple ⊢
      have HQ := hide hq
      clear eu hul hst he0 hbody hsize hup hk hq
      gi_wp2
      refine ⟨trivial, fun h => (by cases h), ?_⟩
      refine (callsIn_wide.2 HU.out).mono ?_
      rintro e w1 ⟨v1, rfl, hO1, hb1⟩
      obtain ⟨ao1, c1, rfl, -, -⟩ := hO1.slice
      have HB1 := hide (HBl.out.trans (KeepR.below hb1 HBl.out.size))
      have hFit : allFit bs pre (q, body, .slice ao1 body.length c1) wr w1 := ⟨fun j hj => HOK2.out j (by omega), HQ.out, HB0.out.symm, hO1⟩
      obtain ⟨fn, tmps, assign, bod, hy, hR⟩ := HY.out pre (q, body, .slice ao1 body.length c1) wr w1 HJp.out hb1 hFit
      unfold recV at hy
      dsimp only at hy
      have HR := hide hR
      clear hO1 hb1 hFit hR HU hcz
      gi_wp2
      refine ⟨fun h => (by cases h), ?_⟩
      refine HR.out.mono ?_
      rintro e W3 (⟨rfl, hJ3, hk3⟩ | ⟨rfl, hJx3⟩)
      · have HJ3 := hide hJ3
        have HB3 := hide (HB1.out.trans hk3)
        clear hJ3 hk3
        gi_wp2
        go_roundw
        case rel =>
          refine ⟨pre ++ [(q, body, .slice ao1 body.length c1)], ?_, ?_, HJ3.out, HB3.out⟩
          · rw [List.length_append, List.length_singleton, HN0.out]
            go_num
          · rw [List.length_append, List.length_singleton]; exact HOK2.out
        case measure => simp [intOf]; omega
      · have HX3 := hide hJx3
        clear hJx3
        gi_wp2
        refine bodyPost_ret (results_none rfl _ _ _) rfl ?_
        exact ⟨⟨_, rfl⟩, .inr ⟨_, HX3.out⟩⟩
    · obtain ⟨er, he, hne⟩ := upk_err (b := bs.drop (plc bs pre.length)) hk
      rw [he] at HU
      have hne' : ¬ (er : Int) = 0 := by omega
      have hnb : ((er : Int) == 0) = false := beq_false_of_ne hne'
      have hnc : ((er : Int) != 0) = true := by rw [bne, hnb]; rfl
      have HK := hide hk
      obtain ⟨q, hq⟩ : ∃ q, q = plc bs pre.length := ⟨_, rfl⟩
      rw [← hq] at HU ⊢
      clear he hne hk hq
      gi_wp2
      refine ⟨trivial, fun h => (by cases h), ?_⟩
      refine (callsIn_wide.2 HU.out).mono ?_
      rintro e w1 ⟨v1, rfl, hO1, hb1⟩
      obtain ⟨ao1, c1, rfl, -, -⟩ := hO1.slice
      rw [List.length_nil]
      have HJ1 := hide (HJ.out pre wr w1 HJp.out hb1)
      clear hO1 hb1 HU hcz
      gi_wp2
      refine ⟨fun _ h => (by cases h), ?_⟩
      gi_wp2
      refine bodyPost_ret (results_none rfl _ _ _) rfl ?_
      exact ⟨⟨_, rfl⟩, .inl ⟨pre, ⟨HOK.out, HK.out⟩, HJ1.out⟩⟩
end Go.Proofs.Ytbnedlcldfpfdaa
