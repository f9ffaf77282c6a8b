/- Fields of other kinds, as the document tells it. -/
import Derived.Test.YtjcfndiceinkjabDoorOC6
namespace Go.Proofs.YtjcfndiceinkjabDoor
set_option linter.unusedVariables false
set_option linter.unusedSimpArgs false
open Go.RowKit

theorem run_build0 {op : Oper} {a : Act} (ho : op.op = .build 27 #[]) (w : World) : (execOp a.eval op).run Tryd.prog w = .ok (.value (keyV zero32)) w := by
  simp only [execOp, ho]
  kernel_rfl
set_option maxRecDepth 20000 in
set_option maxHeartbeats 2000000 in
theorem rforeign_any (w : World) (o : ObjR) (v : ObjV) (hr : ObjRd w o v) : Calls Tryd.prog 34 #[.agg (objL o v).toArray] w (BoolC w (foreignO o)) := by
  have hA0 : ObjAt (w.alloc (.cells (objL o v).toArray 30)) w.heap.size o v := Blk.made w _ _
  have HW := hide (below_alloc w (.cells (objL o v).toArray 30))
  obtain ⟨ad, cd, ed, hld⟩ := hr.d.slice
  obtain ⟨pa, ca, epa, hla⟩ := hr.p.slice
  obtain ⟨ia, da, eia, hia⟩ := hr.i.slice
  obtain ⟨ka, dk, eka, hka⟩ := hr.k.slice
  rw [List.length_map] at epa eia eka
  have c0 := hA0.cKind
  have c1 := hA0.cD
  have c2 := hA0.cP
  have c3 := hA0.cI
  have c4 := hA0.cK hr.ok.t
  have c5 := hA0.cTime hr.ok.t
  have c6 := hA0.cNote hr.ok.t
  have RT := hide hA0.tree
  rw [ed] at c1
  rw [epa] at c2
  rw [eia] at c3
  rw [eka] at c4
  obtain ⟨nd, hnd⟩ : ∃ n, n = o.data.length := ⟨_, rfl⟩
  obtain ⟨np, hnp⟩ : ∃ n, n = o.parts.length := ⟨_, rfl⟩
  obtain ⟨ni, hni⟩ : ∃ n, n = o.items.length := ⟨_, rfl⟩
  obtain ⟨nk, hnk⟩ : ∃ n, n = o.parents.length := ⟨_, rfl⟩
  obtain ⟨kd, hkd⟩ : ∃ n, n = o.kind := ⟨_, rfl⟩
  obtain ⟨tm, htm⟩ : ∃ n, n = o.time := ⟨_, rfl⟩
  obtain ⟨nt, hnt⟩ : ∃ n, n = o.note := ⟨_, rfl⟩
  obtain ⟨tr, htr⟩ : ∃ n, n = o.tree := ⟨_, rfl⟩
  obtain ⟨z32, hz32⟩ : ∃ n, n = zero32 := ⟨_, rfl⟩
  have HE : Hid (foreignO o = if kd ≠ 1 ∧ 0 < nd then true else if kd ≠ 2 ∧ 0 < np then true else if kd ≠ 3 ∧ 0 < ni then true else if kd = 4 then false
    else !decide (tr = z32) || decide (0 < nk) || !decide (tm = 0) || !(nt == [])) := hide (by unfold foreignO; rw [hnd, hnp, hni, hnk, hkd, htm, hnt, htr, hz32])
  rw [← hkd] at c0
  rw [← hnd] at c1
  rw [← hnp] at c2
  rw [← hni] at c3
  rw [← hnk] at c4
  rw [← htm] at c5
  rw [← hnt] at c6
  rw [← htr] at RT
  have OKt : Hid (tr.length = 32) := hide (by rw [htr]; exact hr.ok.t)
  have OKz : okK z32 := by rw [hz32]; rfl
  have Bd0 : Hid (∀ {op : Oper} {a : Act}, op.op = .build 27 #[] → ∀ w, (execOp a.eval op).run Tryd.prog w = .ok (.value (keyV z32)) w) := hide (fun ho w => by rw [hz32]; exact run_build0 ho w)
  have g3 := keysGuard .neq tr z32
  have qn := keysNeq tr z32 OKt.out OKz
  clear hr hA0 ed epa eia eka hnd hnp hni hnk hkd htm hnt htr hz32 hld hla hia hka OKz
  by_cases k1 : kd = 1
  · have b1 : ((kd : Int) != 1) = false := by simp; omega
    have b2 : ((kd : Int) != 2) = true := by simp; omega
    have b3 : ((kd : Int) != 3) = true := by simp; omega
    have b4 : ((kd : Int) == 4) = false := by simp; omega
    by_cases p2 : 0 < np
    · have q2 : (0 : Int) < (np : Int) := by omega
      have HF : Hid (foreignO o = true) := hide (by rw [HE.out]; simp_all)
      clear HE
      go_enter Tryd.func34, Tryd.ntmps34
      go_wp2_with (first
        | ((with_reducible refine wpList_load_keyAt (.tmp 33) w.heap.size 4 tr OKt.out RT.out ?_ ?_ ?_ ?_); rfl; rfl; rfl)
        | ((with_reducible refine wpList_val (keyV z32) ?_ (Bd0.out ?_ _) ?_); rfl; rfl))
      go_ret
      exact ⟨by rw [HF.out]; rfl, HW.out⟩
    have q2 : ¬ (0 : Int) < (np : Int) := by omega
    by_cases p3 : 0 < ni
    · have q3 : (0 : Int) < (ni : Int) := by omega
      have HF : Hid (foreignO o = true) := hide (by rw [HE.out]; simp_all)
      clear HE
      go_enter Tryd.func34, Tryd.ntmps34
      go_wp2_with (first
        | ((with_reducible refine wpList_load_keyAt (.tmp 33) w.heap.size 4 tr OKt.out RT.out ?_ ?_ ?_ ?_); rfl; rfl; rfl)
        | ((with_reducible refine wpList_val (keyV z32) ?_ (Bd0.out ?_ _) ?_); rfl; rfl))
      go_ret
      exact ⟨by rw [HF.out]; rfl, HW.out⟩
    have q3 : ¬ (0 : Int) < (ni : Int) := by omega
    have HE2 : Hid (foreignO o = (!decide (tr = z32) || decide (0 < nk) || !decide (tm = 0) || !(nt == []))) := hide (by rw [HE.out]; simp_all)
    clear HE
    by_cases e1 : tr = z32
    · rw [decide_eq_true e1] at qn
      by_cases e2 : 0 < nk
      · have e2i : (0 : Int) < (nk : Int) := by omega
        have HF : Hid (foreignO o = true) := hide (by rw [HE2.out]; simp_all)
        clear HE2 e1
        go_enter Tryd.func34, Tryd.ntmps34
        go_wp2_with (first
          | ((with_reducible refine wpList_load_keyAt (.tmp 33) w.heap.size 4 tr OKt.out RT.out ?_ ?_ ?_ ?_); rfl; rfl; rfl)
          | ((with_reducible refine wpList_val (keyV z32) ?_ (Bd0.out ?_ _) ?_); rfl; rfl))
        go_ret
        exact ⟨by rw [HF.out]; rfl, HW.out⟩
      · have e2i : ¬ (0 : Int) < (nk : Int) := by omega
        by_cases e3 : tm = 0
        · have e3b : (tm != 0) = false := by simp; omega
          cases nt with
          | nil =>
            have HF : Hid (foreignO o = false) := hide (by rw [HE2.out]; simp_all)
            clear HE2 e1
            go_enter Tryd.func34, Tryd.ntmps34
            go_wp2_with (first
              | ((with_reducible refine wpList_load_keyAt (.tmp 33) w.heap.size 4 tr OKt.out RT.out ?_ ?_ ?_ ?_); rfl; rfl; rfl)
              | ((with_reducible refine wpList_val (keyV z32) ?_ (Bd0.out ?_ _) ?_); rfl; rfl))
            go_ret
            exact ⟨by rw [HF.out]; rfl, HW.out⟩
          | cons x l =>
            have e4b : ((x :: l) != []) = true := by simp
            have HF : Hid (foreignO o = true) := hide (by rw [HE2.out]; simp_all)
            clear HE2 e1
            go_enter Tryd.func34, Tryd.ntmps34
            go_wp2_with (first
              | ((with_reducible refine wpList_load_keyAt (.tmp 33) w.heap.size 4 tr OKt.out RT.out ?_ ?_ ?_ ?_); rfl; rfl; rfl)
              | ((with_reducible refine wpList_val (keyV z32) ?_ (Bd0.out ?_ _) ?_); rfl; rfl))
            go_ret
            exact ⟨by rw [HF.out]; rfl, HW.out⟩
        · have e3b : (tm != 0) = true := by simp; omega
          have HF : Hid (foreignO o = true) := hide (by rw [HE2.out]; simp_all)
          clear HE2 e1
          go_enter Tryd.func34, Tryd.ntmps34
          go_wp2_with (first
            | ((with_reducible refine wpList_load_keyAt (.tmp 33) w.heap.size 4 tr OKt.out RT.out ?_ ?_ ?_ ?_); rfl; rfl; rfl)
            | ((with_reducible refine wpList_val (keyV z32) ?_ (Bd0.out ?_ _) ?_); rfl; rfl))
          go_ret
          exact ⟨by rw [HF.out]; rfl, HW.out⟩
    · rw [decide_eq_false e1] at qn
      have HF : Hid (foreignO o = true) := hide (by rw [HE2.out]; simp_all)
      clear HE2 e1
      go_enter Tryd.func34, Tryd.ntmps34
      go_wp2_with (first
        | ((with_reducible refine wpList_load_keyAt (.tmp 33) w.heap.size 4 tr OKt.out RT.out ?_ ?_ ?_ ?_); rfl; rfl; rfl)
        | ((with_reducible refine wpList_val (keyV z32) ?_ (Bd0.out ?_ _) ?_); rfl; rfl))
      go_ret
      exact ⟨by rw [HF.out]; rfl, HW.out⟩
  by_cases k2 : kd = 2
  · have b1 : ((kd : Int) != 1) = true := by simp; omega
    have b2 : ((kd : Int) != 2) = false := by simp; omega
    have b3 : ((kd : Int) != 3) = true := by simp; omega
    have b4 : ((kd : Int) == 4) = false := by simp; omega
    by_cases p1 : 0 < nd
    · have q1 : (0 : Int) < (nd : Int) := by omega
      have HF : Hid (foreignO o = true) := hide (by rw [HE.out]; simp_all)
      clear HE
      go_enter Tryd.func34, Tryd.ntmps34
      go_wp2_with (first
        | ((with_reducible refine wpList_load_keyAt (.tmp 33) w.heap.size 4 tr OKt.out RT.out ?_ ?_ ?_ ?_); rfl; rfl; rfl)
        | ((with_reducible refine wpList_val (keyV z32) ?_ (Bd0.out ?_ _) ?_); rfl; rfl))
      go_ret
      exact ⟨by rw [HF.out]; rfl, HW.out⟩
    have q1 : ¬ (0 : Int) < (nd : Int) := by omega
    by_cases p3 : 0 < ni
    · have q3 : (0 : Int) < (ni : Int) := by omega
      have HF : Hid (foreignO o = true) := hide (by rw [HE.out]; simp_all)
      clear HE
      go_enter Tryd.func34, Tryd.ntmps34
      go_wp2_with (first
        | ((with_reducible refine wpList_load_keyAt (.tmp 33) w.heap.size 4 tr OKt.out RT.out ?_ ?_ ?_ ?_); rfl; rfl; rfl)
        | ((with_reducible refine wpList_val (keyV z32) ?_ (Bd0.out ?_ _) ?_); rfl; rfl))
      go_ret
      exact ⟨by rw [HF.out]; rfl, HW.out⟩
    have q3 : ¬ (0 : Int) < (ni : Int) := by omega
    have HE2 : Hid (foreignO o = (!decide (tr = z32) || decide (0 < nk) || !decide (tm = 0) || !(nt == []))) := hide (by rw [HE.out]; simp_all)
    clear HE
    by_cases e1 : tr = z32
    · rw [decide_eq_true e1] at qn
      by_cases e2 : 0 < nk
      · have e2i : (0 : Int) < (nk : Int) := by omega
        have HF : Hid (foreignO o = true) := hide (by rw [HE2.out]; simp_all)
        clear HE2 e1
        go_enter Tryd.func34, Tryd.ntmps34
        go_wp2_with (first
          | ((with_reducible refine wpList_load_keyAt (.tmp 33) w.heap.size 4 tr OKt.out RT.out ?_ ?_ ?_ ?_); rfl; rfl; rfl)
          | ((with_reducible refine wpList_val (keyV z32) ?_ (Bd0.out ?_ _) ?_); rfl; rfl))
        go_ret
        exact ⟨by rw [HF.out]; rfl, HW.out⟩
      · have e2i : ¬ (0 : Int) < (nk : Int) := by omega
        by_cases e3 : tm = 0
        · have e3b : (tm != 0) = false := by simp; omega
          cases nt with
          | nil =>
            have HF : Hid (foreignO o = false) := hide (by rw [HE2.out]; simp_all)
            clear HE2 e1
            go_enter Tryd.func34, Tryd.ntmps34
            go_wp2_with (first
              | ((with_reducible refine wpList_load_keyAt (.tmp 33) w.heap.size 4 tr OKt.out RT.out ?_ ?_ ?_ ?_); rfl; rfl; rfl)
              | ((with_reducible refine wpList_val (keyV z32) ?_ (Bd0.out ?_ _) ?_); rfl; rfl))
            go_ret
            exact ⟨by rw [HF.out]; rfl, HW.out⟩
          | cons x l =>
            have e4b : ((x :: l) != []) = true := by simp
            have HF : Hid (foreignO o = true) := hide (by rw [HE2.out]; simp_all)
            clear HE2 e1
            go_enter Tryd.func34, Tryd.ntmps34
            go_wp2_with (first
              | ((with_reducible refine wpList_load_keyAt (.tmp 33) w.heap.size 4 tr OKt.out RT.out ?_ ?_ ?_ ?_); rfl; rfl; rfl)
              | ((with_reducible refine wpList_val (keyV z32) ?_ (Bd0.out ?_ _) ?_); rfl; rfl))
            go_ret
            exact ⟨by rw [HF.out]; rfl, HW.out⟩
        · have e3b : (tm != 0) = true := by simp; omega
          have HF : Hid (foreignO o = true) := hide (by rw [HE2.out]; simp_all)
          clear HE2 e1
          go_enter Tryd.func34, Tryd.ntmps34
          go_wp2_with (first
            | ((with_reducible refine wpList_load_keyAt (.tmp 33) w.heap.size 4 tr OKt.out RT.out ?_ ?_ ?_ ?_); rfl; rfl; rfl)
            | ((with_reducible refine wpList_val (keyV z32) ?_ (Bd0.out ?_ _) ?_); rfl; rfl))
          go_ret
          exact ⟨by rw [HF.out]; rfl, HW.out⟩
    · rw [decide_eq_false e1] at qn
      have HF : Hid (foreignO o = true) := hide (by rw [HE2.out]; simp_all)
      clear HE2 e1
      go_enter Tryd.func34, Tryd.ntmps34
      go_wp2_with (first
        | ((with_reducible refine wpList_load_keyAt (.tmp 33) w.heap.size 4 tr OKt.out RT.out ?_ ?_ ?_ ?_); rfl; rfl; rfl)
        | ((with_reducible refine wpList_val (keyV z32) ?_ (Bd0.out ?_ _) ?_); rfl; rfl))
      go_ret
      exact ⟨by rw [HF.out]; rfl, HW.out⟩
  by_cases k3 : kd = 3
  · have b1 : ((kd : Int) != 1) = true := by simp; omega
    have b2 : ((kd : Int) != 2) = true := by simp; omega
    have b3 : ((kd : Int) != 3) = false := by simp; omega
    have b4 : ((kd : Int) == 4) = false := by simp; omega
    by_cases p1 : 0 < nd
    · have q1 : (0 : Int) < (nd : Int) := by omega
      have HF : Hid (foreignO o = true) := hide (by rw [HE.out]; simp_all)
      clear HE
      go_enter Tryd.func34, Tryd.ntmps34
      go_wp2_with (first
        | ((with_reducible refine wpList_load_keyAt (.tmp 33) w.heap.size 4 tr OKt.out RT.out ?_ ?_ ?_ ?_); rfl; rfl; rfl)
        | ((with_reducible refine wpList_val (keyV z32) ?_ (Bd0.out ?_ _) ?_); rfl; rfl))
      go_ret
      exact ⟨by rw [HF.out]; rfl, HW.out⟩
    have q1 : ¬ (0 : Int) < (nd : Int) := by omega
    by_cases p2 : 0 < np
    · have q2 : (0 : Int) < (np : Int) := by omega
      have HF : Hid (foreignO o = true) := hide (by rw [HE.out]; simp_all)
      clear HE
      go_enter Tryd.func34, Tryd.ntmps34
      go_wp2_with (first
        | ((with_reducible refine wpList_load_keyAt (.tmp 33) w.heap.size 4 tr OKt.out RT.out ?_ ?_ ?_ ?_); rfl; rfl; rfl)
        | ((with_reducible refine wpList_val (keyV z32) ?_ (Bd0.out ?_ _) ?_); rfl; rfl))
      go_ret
      exact ⟨by rw [HF.out]; rfl, HW.out⟩
    have q2 : ¬ (0 : Int) < (np : Int) := by omega
    have HE2 : Hid (foreignO o = (!decide (tr = z32) || decide (0 < nk) || !decide (tm = 0) || !(nt == []))) := hide (by rw [HE.out]; simp_all)
    clear HE
    by_cases e1 : tr = z32
    · rw [decide_eq_true e1] at qn
      by_cases e2 : 0 < nk
      · have e2i : (0 : Int) < (nk : Int) := by omega
        have HF : Hid (foreignO o = true) := hide (by rw [HE2.out]; simp_all)
        clear HE2 e1
        go_enter Tryd.func34, Tryd.ntmps34
        go_wp2_with (first
          | ((with_reducible refine wpList_load_keyAt (.tmp 33) w.heap.size 4 tr OKt.out RT.out ?_ ?_ ?_ ?_); rfl; rfl; rfl)
          | ((with_reducible refine wpList_val (keyV z32) ?_ (Bd0.out ?_ _) ?_); rfl; rfl))
        go_ret
        exact ⟨by rw [HF.out]; rfl, HW.out⟩
      · have e2i : ¬ (0 : Int) < (nk : Int) := by omega
        by_cases e3 : tm = 0
        · have e3b : (tm != 0) = false := by simp; omega
          cases nt with
          | nil =>
            have HF : Hid (foreignO o = false) := hide (by rw [HE2.out]; simp_all)
            clear HE2 e1
            go_enter Tryd.func34, Tryd.ntmps34
            go_wp2_with (first
              | ((with_reducible refine wpList_load_keyAt (.tmp 33) w.heap.size 4 tr OKt.out RT.out ?_ ?_ ?_ ?_); rfl; rfl; rfl)
              | ((with_reducible refine wpList_val (keyV z32) ?_ (Bd0.out ?_ _) ?_); rfl; rfl))
            go_ret
            exact ⟨by rw [HF.out]; rfl, HW.out⟩
          | cons x l =>
            have e4b : ((x :: l) != []) = true := by simp
            have HF : Hid (foreignO o = true) := hide (by rw [HE2.out]; simp_all)
            clear HE2 e1
            go_enter Tryd.func34, Tryd.ntmps34
            go_wp2_with (first
              | ((with_reducible refine wpList_load_keyAt (.tmp 33) w.heap.size 4 tr OKt.out RT.out ?_ ?_ ?_ ?_); rfl; rfl; rfl)
              | ((with_reducible refine wpList_val (keyV z32) ?_ (Bd0.out ?_ _) ?_); rfl; rfl))
            go_ret
            exact ⟨by rw [HF.out]; rfl, HW.out⟩
        · have e3b : (tm != 0) = true := by simp; omega
          have HF : Hid (foreignO o = true) := hide (by rw [HE2.out]; simp_all)
          clear HE2 e1
          go_enter Tryd.func34, Tryd.ntmps34
          go_wp2_with (first
            | ((with_reducible refine wpList_load_keyAt (.tmp 33) w.heap.size 4 tr OKt.out RT.out ?_ ?_ ?_ ?_); rfl; rfl; rfl)
            | ((with_reducible refine wpList_val (keyV z32) ?_ (Bd0.out ?_ _) ?_); rfl; rfl))
          go_ret
          exact ⟨by rw [HF.out]; rfl, HW.out⟩
    · rw [decide_eq_false e1] at qn
      have HF : Hid (foreignO o = true) := hide (by rw [HE2.out]; simp_all)
      clear HE2 e1
      go_enter Tryd.func34, Tryd.ntmps34
      go_wp2_with (first
        | ((with_reducible refine wpList_load_keyAt (.tmp 33) w.heap.size 4 tr OKt.out RT.out ?_ ?_ ?_ ?_); rfl; rfl; rfl)
        | ((with_reducible refine wpList_val (keyV z32) ?_ (Bd0.out ?_ _) ?_); rfl; rfl))
      go_ret
      exact ⟨by rw [HF.out]; rfl, HW.out⟩
  by_cases k4 : kd = 4
  · have b1 : ((kd : Int) != 1) = true := by simp; omega
    have b2 : ((kd : Int) != 2) = true := by simp; omega
    have b3 : ((kd : Int) != 3) = true := by simp; omega
    have b4 : ((kd : Int) == 4) = true := by simp; omega
    by_cases p1 : 0 < nd
    · have q1 : (0 : Int) < (nd : Int) := by omega
      have HF : Hid (foreignO o = true) := hide (by rw [HE.out]; simp_all)
      clear HE
      go_enter Tryd.func34, Tryd.ntmps34
      go_wp2_with (first
        | ((with_reducible refine wpList_load_keyAt (.tmp 33) w.heap.size 4 tr OKt.out RT.out ?_ ?_ ?_ ?_); rfl; rfl; rfl)
        | ((with_reducible refine wpList_val (keyV z32) ?_ (Bd0.out ?_ _) ?_); rfl; rfl))
      go_ret
      exact ⟨by rw [HF.out]; rfl, HW.out⟩
    have q1 : ¬ (0 : Int) < (nd : Int) := by omega
    by_cases p2 : 0 < np
    · have q2 : (0 : Int) < (np : Int) := by omega
      have HF : Hid (foreignO o = true) := hide (by rw [HE.out]; simp_all)
      clear HE
      go_enter Tryd.func34, Tryd.ntmps34
      go_wp2_with (first
        | ((with_reducible refine wpList_load_keyAt (.tmp 33) w.heap.size 4 tr OKt.out RT.out ?_ ?_ ?_ ?_); rfl; rfl; rfl)
        | ((with_reducible refine wpList_val (keyV z32) ?_ (Bd0.out ?_ _) ?_); rfl; rfl))
      go_ret
      exact ⟨by rw [HF.out]; rfl, HW.out⟩
    have q2 : ¬ (0 : Int) < (np : Int) := by omega
    by_cases p3 : 0 < ni
    · have q3 : (0 : Int) < (ni : Int) := by omega
      have HF : Hid (foreignO o = true) := hide (by rw [HE.out]; simp_all)
      clear HE
      go_enter Tryd.func34, Tryd.ntmps34
      go_wp2_with (first
        | ((with_reducible refine wpList_load_keyAt (.tmp 33) w.heap.size 4 tr OKt.out RT.out ?_ ?_ ?_ ?_); rfl; rfl; rfl)
        | ((with_reducible refine wpList_val (keyV z32) ?_ (Bd0.out ?_ _) ?_); rfl; rfl))
      go_ret
      exact ⟨by rw [HF.out]; rfl, HW.out⟩
    have q3 : ¬ (0 : Int) < (ni : Int) := by omega
    have HF : Hid (foreignO o = false) := hide (by rw [HE.out]; simp_all)
    clear HE
    go_enter Tryd.func34, Tryd.ntmps34
    go_wp2_with (first
      | ((with_reducible refine wpList_load_keyAt (.tmp 33) w.heap.size 4 tr OKt.out RT.out ?_ ?_ ?_ ?_); rfl; rfl; rfl)
      | ((with_reducible refine wpList_val (keyV z32) ?_ (Bd0.out ?_ _) ?_); rfl; rfl))
    go_ret
    exact ⟨by rw [HF.out]; rfl, HW.out⟩
  have b1 : ((kd : Int) != 1) = true := by simp; omega
  have b2 : ((kd : Int) != 2) = true := by simp; omega
  have b3 : ((kd : Int) != 3) = true := by simp; omega
  have b4 : ((kd : Int) == 4) = false := by simp; omega
  by_cases p1 : 0 < nd
  · have q1 : (0 : Int) < (nd : Int) := by omega
    have HF : Hid (foreignO o = true) := hide (by rw [HE.out]; simp_all)
    clear HE
    go_enter Tryd.func34, Tryd.ntmps34
    go_wp2_with (first
      | ((with_reducible refine wpList_load_keyAt (.tmp 33) w.heap.size 4 tr OKt.out RT.out ?_ ?_ ?_ ?_); rfl; rfl; rfl)
      | ((with_reducible refine wpList_val (keyV z32) ?_ (Bd0.out ?_ _) ?_); rfl; rfl))
    go_ret
    exact ⟨by rw [HF.out]; rfl, HW.out⟩
  have q1 : ¬ (0 : Int) < (nd : Int) := by omega
  by_cases p2 : 0 < np
  · have q2 : (0 : Int) < (np : Int) := by omega
    have HF : Hid (foreignO o = true) := hide (by rw [HE.out]; simp_all)
    clear HE
    go_enter Tryd.func34, Tryd.ntmps34
    go_wp2_with (first
      | ((with_reducible refine wpList_load_keyAt (.tmp 33) w.heap.size 4 tr OKt.out RT.out ?_ ?_ ?_ ?_); rfl; rfl; rfl)
      | ((with_reducible refine wpList_val (keyV z32) ?_ (Bd0.out ?_ _) ?_); rfl; rfl))
    go_ret
    exact ⟨by rw [HF.out]; rfl, HW.out⟩
  have q2 : ¬ (0 : Int) < (np : Int) := by omega
  by_cases p3 : 0 < ni
  · have q3 : (0 : Int) < (ni : Int) := by omega
    have HF : Hid (foreignO o = true) := hide (by rw [HE.out]; simp_all)
    clear HE
    go_enter Tryd.func34, Tryd.ntmps34
    go_wp2_with (first
      | ((with_reducible refine wpList_load_keyAt (.tmp 33) w.heap.size 4 tr OKt.out RT.out ?_ ?_ ?_ ?_); rfl; rfl; rfl)
      | ((with_reducible refine wpList_val (keyV z32) ?_ (Bd0.out ?_ _) ?_); rfl; rfl))
    go_ret
    exact ⟨by rw [HF.out]; rfl, HW.out⟩
  have q3 : ¬ (0 : Int) < (ni : Int) := by omega
  have HE2 : Hid (foreignO o = (!decide (tr = z32) || decide (0 < nk) || !decide (tm = 0) || !(nt == []))) := hide (by rw [HE.out]; simp_all)
  clear HE
  by_cases e1 : tr = z32
  · rw [decide_eq_true e1] at qn
    by_cases e2 : 0 < nk
    · have e2i : (0 : Int) < (nk : Int) := by omega
      have HF : Hid (foreignO o = true) := hide (by rw [HE2.out]; simp_all)
      clear HE2 e1
      go_enter Tryd.func34, Tryd.ntmps34
      go_wp2_with (first
        | ((with_reducible refine wpList_load_keyAt (.tmp 33) w.heap.size 4 tr OKt.out RT.out ?_ ?_ ?_ ?_); rfl; rfl; rfl)
        | ((with_reducible refine wpList_val (keyV z32) ?_ (Bd0.out ?_ _) ?_); rfl; rfl))
      go_ret
      exact ⟨by rw [HF.out]; rfl, HW.out⟩
    · have e2i : ¬ (0 : Int) < (nk : Int) := by omega
      by_cases e3 : tm = 0
      · have e3b : (tm != 0) = false := by simp; omega
        cases nt with
        | nil =>
          have HF : Hid (foreignO o = false) := hide (by rw [HE2.out]; simp_all)
          clear HE2 e1
          go_enter Tryd.func34, Tryd.ntmps34
          go_wp2_with (first
            | ((with_reducible refine wpList_load_keyAt (.tmp 33) w.heap.size 4 tr OKt.out RT.out ?_ ?_ ?_ ?_); rfl; rfl; rfl)
            | ((with_reducible refine wpList_val (keyV z32) ?_ (Bd0.out ?_ _) ?_); rfl; rfl))
          go_ret
          exact ⟨by rw [HF.out]; rfl, HW.out⟩
        | cons x l =>
          have e4b : ((x :: l) != []) = true := by simp
          have HF : Hid (foreignO o = true) := hide (by rw [HE2.out]; simp_all)
          clear HE2 e1
          go_enter Tryd.func34, Tryd.ntmps34
          go_wp2_with (first
            | ((with_reducible refine wpList_load_keyAt (.tmp 33) w.heap.size 4 tr OKt.out RT.out ?_ ?_ ?_ ?_); rfl; rfl; rfl)
            | ((with_reducible refine wpList_val (keyV z32) ?_ (Bd0.out ?_ _) ?_); rfl; rfl))
          go_ret
          exact ⟨by rw [HF.out]; rfl, HW.out⟩
      · have e3b : (tm != 0) = true := by simp; omega
        have HF : Hid (foreignO o = true) := hide (by rw [HE2.out]; simp_all)
        clear HE2 e1
        go_enter Tryd.func34, Tryd.ntmps34
        go_wp2_with (first
          | ((with_reducible refine wpList_load_keyAt (.tmp 33) w.heap.size 4 tr OKt.out RT.out ?_ ?_ ?_ ?_); rfl; rfl; rfl)
          | ((with_reducible refine wpList_val (keyV z32) ?_ (Bd0.out ?_ _) ?_); rfl; rfl))
        go_ret
        exact ⟨by rw [HF.out]; rfl, HW.out⟩
  · rw [decide_eq_false e1] at qn
    have HF : Hid (foreignO o = true) := hide (by rw [HE2.out]; simp_all)
    clear HE2 e1
    go_enter Tryd.func34, Tryd.ntmps34
    go_wp2_with (first
      | ((with_reducible refine wpList_load_keyAt (.tmp 33) w.heap.size 4 tr OKt.out RT.out ?_ ?_ ?_ ?_); rfl; rfl; rfl)
      | ((with_reducible refine wpList_val (keyV z32) ?_ (Bd0.out ?_ _) ?_); rfl; rfl))
    go_ret
    exact ⟨by rw [HF.out]; rfl, HW.out⟩
end Go.Proofs.YtjcfndiceinkjabDoor
