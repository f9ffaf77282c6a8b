/- The marks behind what was copied. -/
import Derived.Test.YtjcfndiceinkjaaDoorOB10
import Derived.Lib.QuietBelow
namespace Go.Proofs.YtjcfndiceinkjaaDoor
set_option linter.unusedVariables false
set_option linter.unusedSimpArgs false
open Go.RowKit

theorem zero_key (W : World) : (zeroValue 27).run Tryd.prog W = .ok (.agg keyZ) W := by kernel_rfl
set_option maxRecDepth 20000 in
set_option maxHeartbeats 1000000 in
theorem clean_any (w : World) (g : Nat) (xs : List UInt8) (hB : Blk w g ((spL xs).map u8c).toArray 5) (hlen : xs.length ≤ 140737488353000) : Calls Tryd.prog 19 #[.slice (some ⟨g, 0, none⟩) xs.length (xs.length + 70)] w fun e w' => e = .returned (.bool true) ∧ Below w.heap.size w w' := by
  have HB := hide hB
  obtain ⟨n, hn⟩ : ∃ n, n = xs.length := ⟨_, rfl⟩
  have HN := hide hn
  rw [← hn] at hlen ⊢
  clear hB hn
  obtain ⟨m, hm⟩ : ∃ m, m = n + 70 := ⟨_, rfl⟩
  rw [← hm]
  have hw0 : IntKind.i64.wrap ((n : Int) + 70) = (m : Int) := by rw [show (n : Int) + 70 = (m : Int) by omega]; exact wrapi64_nat m (by omega)
  have hmm : (m : Int) ≤ (m : Int) := Int.le_refl _
  have HM := hide hm
  have hmu : m ≤ 140737488353070 := by omega
  have hnm : n ≤ m := by omega
  clear hm
  go_enter Tryd.func19, Tryd.ntmps19
  go_wp2
  go_loopw [4] (fun t wr => ∃ k : Nat, t = .int .i64 k ∧ n ≤ k ∧ k ≤ m ∧ wr = w) (fun t _ => m - (intOf t).toNat)
  case atStart => exact ⟨n, rfl, Nat.le_refl _, hnm, rfl⟩
  case round =>
    obtain ⟨k, rfl, hnk, hk, hw⟩ := hrel
    subst hw
    by_cases hlt : k < m
    · have hki : (k : Int) < (m : Int) := by omega
      have c1 : wr.cell? ⟨g, k, none⟩ = some (.int .u8 165) := HB.out.atU k 165 (by rw [spL_at xs k (by rw [← HN.out, ← HM.out]; exact hlt)]; unfold spAt; rw [List.getElem?_eq_none (by rw [← HN.out]; exact hnk)]; rfl)
      go_wp2
      exact ⟨⟨k + 1, by go_num, by omega, by omega, by trivial⟩, by simp [intOf]; omega⟩
    · have hki : ¬ (k : Int) < (m : Int) := by omega
      go_wp2
      go_ret
      exact ⟨rfl, Below.refl _ _⟩
theorem CopyRow.marks {B : Nat} {w : World} {v : Value} {k : Nat} {L : List (List Value)} {c : List Value} (h : CopyRow B w v k L (c ++ c)) (hk : ∀ x ∈ L, x.length = k) (hc : c.length = k) : ∃ g cap, v = .slice (some ⟨g, 0, none⟩) L.length cap ∧ L.length + 2 ≤ cap ∧ cap ≤ 9223372036854775807 ∧ w.rangeAt g (L.length * k) c ∧ w.rangeAt g ((L.length + 1) * k) c := by
  obtain ⟨g, cap, h1, _, h2, h3, h4⟩ := h
  have h5 := rangeAt_right h4
  rw [flat_len k L hk, Nat.zero_add] at h5
  have h6 := rangeAt_right h5
  rw [hc] at h6
  exact ⟨g, cap, h1, h2, h3, rangeAt_left h5, by rw [Nat.succ_mul]; exact h6⟩
theorem loadAt_sl {w : World} {z o : Nat} {v : Value} (hc : w.cell? ⟨z, o, none⟩ = some v) : (Instr.loadAt 23 (.pointer (some ⟨z, o, none⟩))).run Tryd.prog w = .ok v w := by
  have := Tryd.underlying23
  simp [Instr.loadAt, Instr.sureAddr, go_sem, hc, this]
theorem wpList_load_partAt {ops : Array Oper} {rest : List Oper} {op : Oper} {a : Act} {w : World} {Q : Exit → Act → World → Prop} (x : Operand) (z o : Nat) (p : PartR) (hl : okP p) (hc : w.rangeAt z o (partC p)) (ho : op.op = .load 47 x) (hx : a.eval x = .pointer (some ⟨z, o, none⟩)) (hg : Region.wanted op (yielded ops a.tmps) = true)
    (h : wpList Tryd.prog ops Q rest (a.put op.dst (partV p)) w) : wpList Tryd.prog ops Q (op :: rest) a w := wpList_val _ hg (run_load ho hx (loadAt_part hl hc)) h
theorem wpList_load_itemAt {ops : Array Oper} {rest : List Oper} {op : Oper} {a : Act} {w : World} {Q : Exit → Act → World → Prop} (x : Operand) (z o : Nat) (p : ItemR) (hl : okI p) (hc : w.rangeAt z o (itemC p)) (ho : op.op = .load 50 x) (hx : a.eval x = .pointer (some ⟨z, o, none⟩)) (hg : Region.wanted op (yielded ops a.tmps) = true)
    (h : wpList Tryd.prog ops Q rest (a.put op.dst (itemV p)) w) : wpList Tryd.prog ops Q (op :: rest) a w := wpList_val _ hg (run_load ho hx (loadAt_item hl hc)) h
set_option maxRecDepth 20000 in
set_option maxHeartbeats 2000000 in
theorem left_any (w : World) (B : Nat) (o : ObjR) (v : ObjV) (hF : Fresh B w o v) (ho : ObjOk o) (hs : ObjSz o) : Calls Tryd.prog 11 #[.agg (objL o v).toArray] w (BoolC w true) := by
  have hW0 : Below w.heap.size w (w.alloc (.cells (objL o v).toArray 30)) := below_alloc w _
  have hA : ObjAt (w.alloc (.cells (objL o v).toArray 30)) w.heap.size o v := Blk.made w _ _
  have HF := hide (hF.below hW0)
  have HW := hide hW0
  obtain ⟨gd, ed, _, hD⟩ := (hF.below hW0).d
  obtain ⟨gp, cp, ep, hp2, hp3, rp1, rp2⟩ := (hF.below hW0).p.marks (partsC_len o ho) (partC_len _ markP_ok)
  obtain ⟨gi, ci, ei, hi2, hi3, ri1, ri2⟩ := (hF.below hW0).i.marks (itemsC_len o ho) (itemC_len _ markI_ok)
  obtain ⟨gk, ck, ek, hk2, hk3, rk1, rk2⟩ := (hF.below hW0).k.marks (keysC_len o ho) (keyC_len _ markK_ok)
  rw [List.length_map] at ep hp2 rp1 rp2 ei hi2 ri1 ri2 ek hk2 rk1 rk2
  have c1 := hA.cD
  have c2 := hA.cP
  have c3 := hA.cI
  have c4 := hA.cK ho.t
  rw [ed] at c1
  rw [ep] at c2
  rw [ei] at c3
  rw [ek] at c4
  obtain ⟨np, hnp⟩ : ∃ n, n = o.parts.length := ⟨_, rfl⟩
  obtain ⟨ni, hni⟩ : ∃ n, n = o.items.length := ⟨_, rfl⟩
  obtain ⟨nk, hnk⟩ : ∃ n, n = o.parents.length := ⟨_, rfl⟩
  rw [← hnp] at c2 hp2 rp1 rp2
  rw [← hni] at c3 hi2 ri1 ri2
  rw [← hnk] at c4 hk2 rk1 rk2
  obtain ⟨p1, hp1⟩ : ∃ x, x = np + 1 := ⟨_, rfl⟩
  obtain ⟨p2, hp2'⟩ : ∃ x, x = np + 2 := ⟨_, rfl⟩
  obtain ⟨i1, hi1⟩ : ∃ x, x = ni + 1 := ⟨_, rfl⟩
  obtain ⟨i2, hi2'⟩ : ∃ x, x = ni + 2 := ⟨_, rfl⟩
  obtain ⟨k1, hk1⟩ : ∃ x, x = nk + 1 := ⟨_, rfl⟩
  obtain ⟨k2, hk2'⟩ : ∃ x, x = nk + 2 := ⟨_, rfl⟩
  rw [← hp1] at rp2
  rw [← hi1] at ri2
  rw [← hk1] at rk2
  have wp2 : IntKind.i64.wrap ((np : Int) + 2) = (p2 : Int) := by rw [show (np : Int) + 2 = (p2 : Int) by omega]; exact wrapi64_nat p2 (by omega)
  have wi2 : IntKind.i64.wrap ((ni : Int) + 2) = (i2 : Int) := by rw [show (ni : Int) + 2 = (i2 : Int) by omega]; exact wrapi64_nat i2 (by omega)
  have wk2 : IntKind.i64.wrap ((nk : Int) + 2) = (k2 : Int) := by rw [show (nk : Int) + 2 = (k2 : Int) by omega]; exact wrapi64_nat k2 (by omega)
  have xp1 : IntKind.i64.wrap ((p2 : Int) - 1) = (p1 : Int) := by rw [show (p2 : Int) - 1 = (p1 : Int) by omega]; exact wrapi64_nat p1 (by omega)
  have xp2 : IntKind.i64.wrap ((p2 : Int) - 2) = (np : Int) := by rw [show (p2 : Int) - 2 = (np : Int) by omega]; exact wrapi64_nat np (by omega)
  have xi1 : IntKind.i64.wrap ((i2 : Int) - 1) = (i1 : Int) := by rw [show (i2 : Int) - 1 = (i1 : Int) by omega]; exact wrapi64_nat i1 (by omega)
  have xi2 : IntKind.i64.wrap ((i2 : Int) - 2) = (ni : Int) := by rw [show (i2 : Int) - 2 = (ni : Int) by omega]; exact wrapi64_nat ni (by omega)
  have xk1 : IntKind.i64.wrap ((k2 : Int) - 1) = (k1 : Int) := by rw [show (k2 : Int) - 1 = (k1 : Int) by omega]; exact wrapi64_nat k1 (by omega)
  have xk2 : IntKind.i64.wrap ((k2 : Int) - 2) = (nk : Int) := by rw [show (k2 : Int) - 2 = (nk : Int) by omega]; exact wrapi64_nat nk (by omega)
  have bp : (p2 : Int) ≤ (cp : Int) := by omega
  have bi : (i2 : Int) ≤ (ci : Int) := by omega
  have bk : (k2 : Int) ≤ (ck : Int) := by omega
  have lp1 : (p1 : Int) < (p2 : Int) := by omega
  have lp2 : (np : Int) < (p2 : Int) := by omega
  have li1 : (i1 : Int) < (i2 : Int) := by omega
  have li2 : (ni : Int) < (i2 : Int) := by omega
  have lk1 : (k1 : Int) < (k2 : Int) := by omega
  have lk2 : (nk : Int) < (k2 : Int) := by omega
  obtain ⟨mp, hmp⟩ : ∃ m, m = markP := ⟨_, rfl⟩
  obtain ⟨mi, hmi⟩ : ∃ m, m = markI := ⟨_, rfl⟩
  obtain ⟨mk, hmk⟩ : ∃ m, m = markK := ⟨_, rfl⟩
  rw [← hmp] at rp1 rp2
  rw [← hmi] at ri1 ri2
  rw [← hmk] at rk1 rk2
  have OP : Hid (okP mp) := hide (by rw [hmp]; exact markP_ok)
  have OI : Hid (okI mi) := hide (by rw [hmi]; exact markI_ok)
  have OK : Hid (mk.length = 32) := hide (by rw [hmk]; exact markK_ok)
  have BdP : Hid (∀ {op : Oper} {a : Act}, op.op = .build 47 #[(1, .const (.int .u64 92))] → ∀ w, (execOp a.eval op).run Tryd.prog w = .ok (.value (partV mp)) w) := hide (fun ho w => by rw [hmp]; exact run_buildP ho w)
  have BdI : Hid (∀ {op : Oper} {a : Act}, op.op = .build 50 #[(2, .const (.int .u64 92))] → ∀ w, (execOp a.eval op).run Tryd.prog w = .ok (.value (itemV mi)) w) := hide (fun ho w => by rw [hmi]; exact run_buildI ho w)
  have BdK : Hid (∀ {op : Oper} {a : Act}, op.op = .build 27 #[(9, .const (.int .u8 92))] → ∀ w, (execOp a.eval op).run Tryd.prog w = .ok (.value (keyV mk)) w) := hide (fun ho w => by rw [hmk]; exact run_buildK ho w)
  have RP1 := hide rp1
  have RP2 := hide rp2
  have RI1 := hide ri1
  have RI2 := hide ri2
  have RK1 := hide rk1
  have RK2 := hide rk2
  have g1 := partGuard .eql mp mp
  have q1 := partEql mp mp OP.out OP.out
  have g2 := itemGuard .eql mi mi
  have q2 := itemEql mi mi OI.out OI.out
  have g3 := keysGuard .eql mk mk
  have q3 := keysEql mk mk OK.out OK.out
  rw [decide_eq_true rfl] at q1 q2 q3
  have HA := hide hA
  have HD := hide hD
  have SD := hide hs.d
  have HED := hide ed
  have hzk := zero_key
  have HZ1 : Hid (w.heap.size + 1 = (w.alloc (.cells (objL o v).toArray 30)).heap.size) := hide (by simp)
  clear hF ho hs hW0 hA hD rp1 rp2 ri1 ri2 rk1 rk2 hmp hmi hmk hnp hni hnk hp1 hp2' hi1 hi2' hk1 hk2' ed ep ei ek
  go_enter Tryd.func11, Tryd.ntmps11
  go_wp2_with (first
    | ((with_reducible refine wpList_val (partV mp) ?_ (BdP.out ?_ _) ?_); rfl; rfl)
    | ((with_reducible refine wpList_val (itemV mi) ?_ (BdI.out ?_ _) ?_); rfl; rfl)
    | ((with_reducible refine wpList_val (keyV mk) ?_ (BdK.out ?_ _) ?_); rfl; rfl)
    | ((with_reducible refine wpList_put_key ?_ (.tmp 6) (.tmp 30) ?_ (w.heap.size + 1) ?_ (w.alloc (.cells (objL o v).toArray 30)) ?_ HZ1.out mk OK.out ?_ ?_); rfl; rfl; rfl; rfl; rfl; intro w4 HK4 hb4; generalize hG : wpList _ _ _ _ _ _ = G))
  have HW4 := hide (HW.out.trans (hb4.mono HW.out.size))
  have HD4 := hide (HD.out.below hb4 HD.out.lt)
  have HA4 := hide (HA.out.below hb4)
  have SP1 := hide (rangeAt_below RP1.out hb4)
  have SP2 := hide (rangeAt_below RP2.out hb4)
  have SI1 := hide (rangeAt_below RI1.out hb4)
  have SI2 := hide (rangeAt_below RI2.out hb4)
  have SK1 := hide (rangeAt_below RK1.out hb4)
  have SK2 := hide (rangeAt_below RK2.out hb4)
  clear hb4 HW HD HA RP1 RP2 RI1 RI2 RK1 RK2 c1 c2 c3 c4 hzk
  subst hG
  go_wp2_with (first
    | ((with_reducible refine wpList_load_partAt (.tmp 35) gp (p1 * 33) mp OP.out SP2.out ?_ ?_ ?_ ?_); rfl; rfl; rfl)
    | ((with_reducible refine wpList_load_partAt (.tmp 44) gp (np * 33) mp OP.out SP1.out ?_ ?_ ?_ ?_); rfl; rfl; rfl)
    | ((with_reducible refine wpList_load_itemAt (.tmp 53) gi (i1 * 35) mi OI.out SI2.out ?_ ?_ ?_ ?_); rfl; rfl; rfl)
    | ((with_reducible refine wpList_load_itemAt (.tmp 62) gi (ni * 35) mi OI.out SI1.out ?_ ?_ ?_ ?_); rfl; rfl; rfl)
    | ((with_reducible refine wpList_val (partV mp) ?_ (BdP.out ?_ _) ?_); rfl; rfl)
    | ((with_reducible refine wpList_val (itemV mi) ?_ (BdI.out ?_ _) ?_); rfl; rfl))
  have hww := below_regrown w4
  have Hcl := hide (fun d os => clean_any (Sort.grow (redrawn w4 d) os) gd o.data (HD4.out.below (hww d os) HD4.out.lt) SD.out)
  have Hld := hide (fun d os => loadAt_sl (((HA4.out.below (hww d os)).cD).trans (congrArg some HED.out)))
  have Hk1 := hide (fun d os => loadAt_key OK.out (rangeAt_below SK1.out (hww d os)))
  have Hk2 := hide (fun d os => loadAt_key OK.out (rangeAt_below SK2.out (hww d os)))
  have Hk0 := hide (fun d os => (HK4.out.below (hww d os)).load)
  clear hww g1 q1 g2 q2 SP1 SP2 SI1 SI2 BdP BdI BdK
  refine wp_region_quiet_below (by kernel_rfl) (by kernel_rfl) ?_
  quiet_step (fail)
  refine wpQuiet_val (.slice (some ⟨gd, 0, none⟩) o.data.length (o.data.length + 70)) rfl (fun w hw => ?_) ?_
  · obtain ⟨p, rfl⟩ := hw
    exact run_load rfl rfl (Hld.out _ _)
  quiet_step (exact Calls.regrown_of (Hcl.out _ _))
  quiet_step (fail)
  quiet_step (fail)
  quiet_step (fail)
  quiet_step (fail)
  quiet_step (fail)
  quiet_step (fail)
  quiet_step (fail)
  quiet_step (fail)
  quiet_step (fail)
  quiet_step (fail)
  quiet_step (fail)
  quiet_step (fail)
  refine wpQuiet_val (keyV mk) rfl (fun w hw => ?_) ?_
  · obtain ⟨p, rfl⟩ := hw
    exact run_load rfl rfl (Hk2.out _ _)
  refine wpQuiet_val (keyV mk) rfl (fun w hw => ?_) ?_
  · obtain ⟨p, rfl⟩ := hw
    exact run_load rfl rfl (Hk0.out _ _)
  quiet_step (fail)
  quiet_step (fail)
  quiet_step (fail)
  quiet_step (fail)
  quiet_step (fail)
  quiet_step (fail)
  quiet_step (fail)
  quiet_step (fail)
  refine wpQuiet_val (keyV mk) rfl (fun w hw => ?_) ?_
  · obtain ⟨p, rfl⟩ := hw
    exact run_load rfl rfl (Hk1.out _ _)
  refine wpQuiet_val (keyV mk) rfl (fun w hw => ?_) ?_
  · obtain ⟨p, rfl⟩ := hw
    exact run_load rfl rfl (Hk0.out _ _)
  quiet_step (fail)
  quiet_step (fail)
  quiet_step (fail)
  refine wpQuiet_nil ?_
  intro w5 hw'
  obtain ⟨⟨dq, osq⟩, hw''⟩ := hw'
  have HB5 : Hid (Below w.heap.size w w5) := hide (by rw [hw'']; exact HW4.out.trans ((below_regrown w4 dq osq).mono HW4.out.size))
  clear hw''
  go_wp2
  go_ret
  exact ⟨rfl, HB5.out⟩
end Go.Proofs.YtjcfndiceinkjaaDoor
