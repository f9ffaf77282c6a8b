/- PinsPlays: done, given what spoilt leaves. -/
import Derived.Test.YtagnglkkmdeicaaPA16
namespace Go.Proofs.Ytagnglkkmdeicaa
set_option linter.unusedVariables false
set_option linter.unusedSimpArgs false
open Go.RowKit Go.Shelf
set_option maxRecDepth 100000

def DoneC (zp zr : Nat) (os : List (Option SesV)) (n : Nat) (w : World) (e : Ending) (w' : World) : Prop := e = .returned (.bool true) ∧ Chg (Ft zp zr os) w w' ∧ ∃ os' D', One w' zp zr os' D' (n + 1) ∧ ∀ i, Ft zp zr os' i → Ft zp zr os i ∨ w.heap.size ≤ i
theorem infoSt : (Try.prog.info? 32).map (·.size) = some 36 := by kernel_rfl
theorem One.ftlt {w : World} {zp zr n : Nat} {os : List (Option SesV)} {D : List RfV} (h : One w zp zr os D n) {i : Nat} (hi : Ft zp zr os i) : i < w.heap.size := by
  rcases hi with rfl | rfl | ⟨k, v, e, rfl | rfl⟩
  · exact h.p.blk.lt
  · exact h.r.blk.lt
  · exact (h.p.ses k v e).blk.lt
  · exact (h.p.ses k v e).set.set.lt
set_option maxHeartbeats 4000000 in
theorem done_any (SP : SpoH) {w : World} {zp zr n : Nat} {os : List (Option SesV)} {D : List RfV} (h : One w zp zr os D n) (hn : n ≤ 4398046510976) (dd s : Int) (ot al : Bool) (x : List UInt8) (hx : x.length = 32) : Calls Try.prog 7 #[.pointer (some ⟨zp, 0, none⟩), .pointer (some ⟨zr, 0, none⟩), .agg (stL dd ot s x al).toArray] w (DoneC zp zr os n w) := by
  have HTO : Hid (∀ W', Below w.heap.size w W' → Calls Try.prog 24 #[.pointer (some ⟨zp, 0, none⟩), .pointer (some ⟨zr, 0, none⟩), .agg (stL dd ot s x al).toArray] W' (ToldOk W')) := hide (fun W' q => told_any SP (h.below q) hn dd s ot al x hx)
  obtain ⟨A, hA⟩ : ∃ A : Array Value, A = (stL dd ot s x al).toArray := ⟨_, rfl⟩
  rw [← hA] at HTO ⊢
  obtain ⟨W, hW⟩ : ∃ W, W = w.alloc (.cells A 32) := ⟨_, rfl⟩
  obtain ⟨zx, hzx⟩ : ∃ zx, zx = w.heap.size := ⟨_, rfl⟩
  have hb : Below w.heap.size w W := by rw [hW]; exact (Below.refl _ _).alloc (Nat.le_refl _) _
  have hO := h.below hb
  have hSt : StAt W zx dd s x al := by rw [hW, hA, hzx]; exact StAt.made w dd ot s x al hx
  have HZF : Hid (¬ Ft zp zr os zx) := hide (fun q => by have := h.ftlt q; omega)
  have HBK : Hid (Blk W zx A 32) := hide (by rw [hW, hzx]; exact Blk.made w _ _)
  have HTW := hide (HTO.out W hb)
  have HSt := hide hSt
  have hc0 := hSt.c0
  have HO := hide hO
  have HB := hide hb
  have HX := hide hx
  have HN := hide hn
  have hAsz : A.size = 36 := by rw [hA]; simp [stL, hx]
  have HAS := hide hAsz
  clear h hb hO hSt hn hx hA hAsz HTO
  go_enter Try.func7, Try.ntmps7
  go_upto_region 1 with fail
  rw [← hW, ← hzx]
  clear hW hzx
  by_cases d0 : dd = 0
  · subst d0
    obtain ⟨r, Mid, q1, q2⟩ := two_open (HO.out.below (below_d W)) s
    go_upto_region 3 with fail
    refine dn3_walk _ (fun _ _ _ _ _ h => h) W zp zr zx s x HX.out r (fun w1 => Mid w1 ∧ Chg (Ft zp zr os) W.drew w1) (fun w2 => Chg (Ft zp zr os) W.drew w2 ∧ ∃ os' D', One w2 zp zr os' D' (n + 1) ∧ ∀ i, Ft zp zr os' i → Ft zp zr os i ∨ W.drew.heap.size ≤ i) ⟨(HSt.out.below (below_d W)).c2, (HSt.out.below (below_d W)).key⟩ q1 (fun w1 q => ⟨((HSt.out.below (below_d W)).chg q.2 HZF.out).c2, ((HSt.out.below (below_d W)).chg q.2 HZF.out).key⟩) (fun w1 q => (q2 w1 q.1).mono fun e w' t => ⟨t.1, q.2.trans t.2.1, t.2.2⟩) (fun w2 q => ⟨((HSt.out.below (below_d W)).chg q.1 HZF.out).c2, ((HSt.out.below (below_d W)).chg q.1 HZF.out).key⟩) _ (Nat.lt_of_sub_pos (by exact Nat.succ_pos _)) rfl rfl rfl ?_
    rintro w2 ⟨hc2, os', D', hO2, hF2⟩
    have HR : Hid (DoneC zp zr os n w (.returned (.bool true)) w2) := hide ⟨rfl, (Chg.of_below (HB.out.trans ((below_d W).mono HB.out.size))).trans hc2, os', D', hO2, fun i q => (hF2 i q).imp id (fun t => Nat.le_trans HB.out.size t)⟩
    simp only [Act.put, List.setIfInBounds_toArray, List.set_cons_zero, List.set_cons_succ]
    clear hc2 hO2 hF2 q1 q2
    go_wp2
    go_ret
    exact HR.out
  by_cases d1 : dd = 1
  · subst d1
    obtain ⟨r, Mid, q1, q2⟩ := two_close (HO.out.below (below_d W)) s
    go_upto_region 5 with fail
    refine dn5_walk _ (fun _ _ _ _ _ h => h) W zp zr zx s x HX.out r (fun w1 => Mid w1 ∧ Chg (Ft zp zr os) W.drew w1) (fun w2 => Chg (Ft zp zr os) W.drew w2 ∧ ∃ os' D', One w2 zp zr os' D' (n + 1) ∧ ∀ i, Ft zp zr os' i → Ft zp zr os i ∨ W.drew.heap.size ≤ i) ⟨(HSt.out.below (below_d W)).c2, (HSt.out.below (below_d W)).key⟩ q1 (fun w1 q => ⟨((HSt.out.below (below_d W)).chg q.2 HZF.out).c2, ((HSt.out.below (below_d W)).chg q.2 HZF.out).key⟩) (fun w1 q => (q2 w1 q.1).mono fun e w' t => ⟨t.1, q.2.trans t.2.1, t.2.2⟩) (fun w2 q => ⟨((HSt.out.below (below_d W)).chg q.1 HZF.out).c2, ((HSt.out.below (below_d W)).chg q.1 HZF.out).key⟩) _ (Nat.lt_of_sub_pos (by exact Nat.succ_pos _)) rfl rfl rfl ?_
    rintro w2 ⟨hc2, os', D', hO2, hF2⟩
    have HR : Hid (DoneC zp zr os n w (.returned (.bool true)) w2) := hide ⟨rfl, (Chg.of_below (HB.out.trans ((below_d W).mono HB.out.size))).trans hc2, os', D', hO2, fun i q => (hF2 i q).imp id (fun t => Nat.le_trans HB.out.size t)⟩
    simp only [Act.put, List.setIfInBounds_toArray, List.set_cons_zero, List.set_cons_succ]
    clear hc2 hO2 hF2 q1 q2
    go_wp2
    go_ret
    exact HR.out
  by_cases d2 : dd = 2
  · subst d2
    obtain ⟨r, Mid, q1, q2⟩ := two_pin (HO.out.below (below_d W)) s x HX.out HN.out
    go_upto_region 7 with fail
    refine dn7_walk _ (fun _ _ _ _ _ h => h) W zp zr zx s x HX.out r (fun w1 => Mid w1 ∧ Chg (Ft zp zr os) W.drew w1) (fun w2 => Chg (Ft zp zr os) W.drew w2 ∧ ∃ os' D', One w2 zp zr os' D' (n + 1) ∧ ∀ i, Ft zp zr os' i → Ft zp zr os i ∨ W.drew.heap.size ≤ i) ⟨(HSt.out.below (below_d W)).c2, (HSt.out.below (below_d W)).key⟩ q1 (fun w1 q => ⟨((HSt.out.below (below_d W)).chg q.2 HZF.out).c2, ((HSt.out.below (below_d W)).chg q.2 HZF.out).key⟩) (fun w1 q => (q2 w1 q.1).mono fun e w' t => ⟨t.1, q.2.trans t.2.1, t.2.2⟩) (fun w2 q => ⟨((HSt.out.below (below_d W)).chg q.1 HZF.out).c2, ((HSt.out.below (below_d W)).chg q.1 HZF.out).key⟩) _ (Nat.lt_of_sub_pos (by exact Nat.succ_pos _)) rfl rfl rfl ?_
    rintro w2 ⟨hc2, os', D', hO2, hF2⟩
    have HR : Hid (DoneC zp zr os n w (.returned (.bool true)) w2) := hide ⟨rfl, (Chg.of_below (HB.out.trans ((below_d W).mono HB.out.size))).trans hc2, os', D', hO2, fun i q => (hF2 i q).imp id (fun t => Nat.le_trans HB.out.size t)⟩
    simp only [Act.put, List.setIfInBounds_toArray, List.set_cons_zero, List.set_cons_succ]
    clear hc2 hO2 hF2 q1 q2
    go_wp2
    go_ret
    exact HR.out
  by_cases d3 : dd = 3
  · subst d3
    obtain ⟨r, Mid, q1, q2⟩ := two_enter (HO.out.below (below_d W)) s (by have := HN.out; omega)
    go_upto_region 9 with fail
    refine dn9_walk _ (fun _ _ _ _ _ h => h) W zp zr zx s x HX.out r (fun w1 => Mid w1 ∧ Chg (Ft zp zr os) W.drew w1) (fun w2 => Chg (Ft zp zr os) W.drew w2 ∧ ∃ os' D', One w2 zp zr os' D' (n + 1) ∧ ∀ i, Ft zp zr os' i → Ft zp zr os i ∨ W.drew.heap.size ≤ i) ⟨(HSt.out.below (below_d W)).c2, (HSt.out.below (below_d W)).key⟩ q1 (fun w1 q => ⟨((HSt.out.below (below_d W)).chg q.2 HZF.out).c2, ((HSt.out.below (below_d W)).chg q.2 HZF.out).key⟩) (fun w1 q => (q2 w1 q.1).mono fun e w' t => ⟨t.1, q.2.trans t.2.1, t.2.2⟩) (fun w2 q => ⟨((HSt.out.below (below_d W)).chg q.1 HZF.out).c2, ((HSt.out.below (below_d W)).chg q.1 HZF.out).key⟩) _ (Nat.lt_of_sub_pos (by exact Nat.succ_pos _)) rfl rfl rfl ?_
    rintro w2 ⟨hc2, os', D', hO2, hF2⟩
    have HR : Hid (DoneC zp zr os n w (.returned (.bool true)) w2) := hide ⟨rfl, (Chg.of_below (HB.out.trans ((below_d W).mono HB.out.size))).trans hc2, os', D', hO2, fun i q => (hF2 i q).imp id (fun t => Nat.le_trans HB.out.size t)⟩
    simp only [Act.put, List.setIfInBounds_toArray, List.set_cons_zero, List.set_cons_succ]
    clear hc2 hO2 hF2 q1 q2
    go_wp2
    go_ret
    exact HR.out
  by_cases d4 : dd = 4
  · subst d4
    obtain ⟨r, Mid, q1, q2⟩ := two_leave (HO.out.below (below_d W)) s (by have := HN.out; omega)
    go_upto_region 11 with fail
    refine dn11_walk _ (fun _ _ _ _ _ h => h) W zp zr zx s x HX.out r (fun w1 => Mid w1 ∧ Chg (Ft zp zr os) W.drew w1) (fun w2 => Chg (Ft zp zr os) W.drew w2 ∧ ∃ os' D', One w2 zp zr os' D' (n + 1) ∧ ∀ i, Ft zp zr os' i → Ft zp zr os i ∨ W.drew.heap.size ≤ i) ⟨(HSt.out.below (below_d W)).c2, (HSt.out.below (below_d W)).key⟩ q1 (fun w1 q => ⟨((HSt.out.below (below_d W)).chg q.2 HZF.out).c2, ((HSt.out.below (below_d W)).chg q.2 HZF.out).key⟩) (fun w1 q => (q2 w1 q.1).mono fun e w' t => ⟨t.1, q.2.trans t.2.1, t.2.2⟩) (fun w2 q => ⟨((HSt.out.below (below_d W)).chg q.1 HZF.out).c2, ((HSt.out.below (below_d W)).chg q.1 HZF.out).key⟩) _ (Nat.lt_of_sub_pos (by exact Nat.succ_pos _)) rfl rfl rfl ?_
    rintro w2 ⟨hc2, os', D', hO2, hF2⟩
    have HR : Hid (DoneC zp zr os n w (.returned (.bool true)) w2) := hide ⟨rfl, (Chg.of_below (HB.out.trans ((below_d W).mono HB.out.size))).trans hc2, os', D', hO2, fun i q => (hF2 i q).imp id (fun t => Nat.le_trans HB.out.size t)⟩
    simp only [Act.put, List.setIfInBounds_toArray, List.set_cons_zero, List.set_cons_succ]
    clear hc2 hO2 hF2 q1 q2
    go_wp2
    go_ret
    exact HR.out
  have e0 : (dd == 0) = false := by simpa using d0
  have e1 : (dd == 1) = false := by simpa using d1
  have e2 : (dd == 2) = false := by simpa using d2
  have e3 : (dd == 3) = false := by simpa using d3
  have e4 : (dd == 4) = false := by simpa using d4
  clear d0 d1 d2 d3 d4
  go_wp2_with (first | ((with_reducible refine wpList_load_blk ?_ 32 _ Try.underlying32 ?_ 36 infoSt (.tmp 5) ?_ zx ?_ A 32 HBK.out HAS.out ?_); rfl; rfl; rfl; rfl) | (go_at_call 24; (with_reducible refine HTW.out.mono ?_); rintro e w2 ⟨rfl, hb2⟩))
  go_ret
  exact ⟨rfl, Chg.of_below (HB.out.trans (hb2.mono HB.out.size)), os, D, ⟨(HO.out.below hb2).p, (HO.out.below hb2).r, HO.out.rel.more (by omega)⟩, fun i q => .inl q⟩
end Go.Proofs.Ytagnglkkmdeicaa
