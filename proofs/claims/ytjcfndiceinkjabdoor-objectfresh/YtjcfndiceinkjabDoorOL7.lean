/- The document's Check and Encode. -/
import Derived.Test.YtjcfndiceinkjabDoorOL6
namespace Go.Proofs.YtjcfndiceinkjabDoor
set_option linter.unusedVariables false
set_option linter.unusedSimpArgs false
open Go.RowKit Go.Lib

theorem wanted_yes {ops : Array Oper} {o : Oper} {a : Act} {j : Nat} {b : Bool} {t : Tmp} (hg : o.guard = some (j, b)) (hd : (ops[j]?).bind (·.dst) = some t) (he : a.eval (.tmp t) = .bool b) (hz : t < a.tmps.size) : Region.wanted o (yielded ops a.tmps) = true := by
  have h1 : a.tmps[t]? = some (.bool b) := by
    rw [Array.getElem?_eq_getElem hz]
    simpa [Act.eval, hz] using he
  simp [Region.wanted, hg, yielded, hd, h1]
theorem own_sl {w : World} {base n : Nat} {v : Value} {ys : List Value} {e : TypeId} {k : Nat} (h : w.ownsRow base e k v n ys) : ∃ ao c, v = .slice ao n c := by
  obtain ⟨h0, ⟨rfl, hn⟩ | ⟨g, cap, cur, rfl, _⟩⟩ := h
  · exact ⟨none, 0, by rw [hn]⟩
  · exact ⟨_, _, rfl⟩
set_option maxRecDepth 20000 in
set_option maxHeartbeats 8000000 in
theorem rcheck_any (w : World) (o : ObjR) (v : ObjV) (hr : ObjRd w o v) (hs : TxtSz o) (hp : o.parents.length < 9223372036854775807) : Calls Tryd.prog 15 #[.agg (objL o v).toArray] w (ErrC w (checkO o)) := by
  have hA0 : ObjAt (w.alloc (.cells (objL o v).toArray 30)) w.heap.size o v := Blk.made w _ _
  have AB : Hid (Blk (w.alloc (.cells (objL o v).toArray 30)) w.heap.size (objL o v).toArray 30) := hide hA0
  have OZ : Hid ((objL o v).toArray.size = 39) := hide (objL_size o v hr.ok.t)
  have HW := hide (below_alloc w (.cells (objL o v).toArray 30))
  have HR := hide (hr.below HW.out)
  have HS := hide hs
  have HP := hide hp
  have c0 := hA0.cKind
  obtain ⟨ao, cp, ed, _⟩ := hr.d.slice
  have ED := hide ed
  obtain ⟨nd, hnd⟩ : ∃ n, n = o.data.length := ⟨_, rfl⟩
  have HND := hide hnd
  obtain ⟨kd, hkd⟩ : ∃ n, n = o.kind := ⟨_, rfl⟩
  rw [← hkd] at c0
  have HKD := hide hkd
  have HA := hide hA0
  clear hr hs hp hA0 ed hnd hkd
  by_cases k1 : kd < 1
  · have k1i : (kd : Int) < 1 := by omega
    have HE : Hid (checkO o = 40) := hide (by have e : wrongO o = 40 := by unfold wrongO; rw [← HKD.out, if_pos (.inl k1)]
                                              unfold checkO; rw [e]; rfl)
    clear k1
    go_enter Tryd.func15, Tryd.ntmps15
    go_wp2
    go_ret
    exact ⟨by rw [HE.out]; rfl, HW.out⟩
  have k1i : ¬ (kd : Int) < 1 := by omega
  by_cases k4 : 4 < kd
  · have k4i : (4 : Int) < (kd : Int) := by omega
    have HE : Hid (checkO o = 40) := hide (by have e : wrongO o = 40 := by unfold wrongO; rw [← HKD.out, if_pos (.inr k4)]
                                              unfold checkO; rw [e]; rfl)
    clear k1 k4
    go_enter Tryd.func15, Tryd.ntmps15
    go_wp2
    go_ret
    exact ⟨by rw [HE.out]; rfl, HW.out⟩
  have k4i : ¬ (4 : Int) < (kd : Int) := by omega
  have HK1 : Hid (1 ≤ o.kind) := hide (by rw [← HKD.out]; omega)
  have HK4 : Hid (o.kind ≤ 4) := hide (by rw [← HKD.out]; omega)
  clear k1 k4
  obtain ⟨W0, hW0⟩ : ∃ W, W = w.alloc (.cells (objL o v).toArray 30) := ⟨_, rfl⟩
  go_enter Tryd.func15, Tryd.ntmps15
  go_wp2_with (first
    | ((with_reducible refine wpList_load_obj (.tmp 1) w.heap.size (objL o v).toArray AB.out OZ.out ?_ ?_ ?_ ?_); rfl; rfl; rfl))
  rw [← hW0] at HW HR HA AB c0 ⊢
  refine (rforeign_any W0 o v HR.out).mono ?_
  rintro e W1 ⟨rfl, hb1⟩
  have HR1 := hide (HR.out.below hb1)
  have HW1 := hide (HW.out.trans (hb1.mono HW.out.size))
  have HA1 := hide (HA.out.below hb1)
  have AB1 : Hid (Blk W1 w.heap.size (objL o v).toArray 30) := hide HA1.out
  clear HR HW HA AB c0 hb1 hW0
  cases hF : foreignO o with
  | true =>
    have HE : Hid (checkO o = 41) := hide (by
      have e : wrongO o = 41 := by unfold wrongO; rw [if_neg (by have := HK1.out; have := HK4.out; omega), if_pos hF]
      unfold checkO; rw [e]; rfl)
    go_wp2
    go_ret
    exact ⟨by rw [HE.out]; rfl, HW1.out⟩
  | false =>
  have HX : Hid (wrongO o = if 128 < kidN o then 42 else innerO o) := hide (wrong_inner o HK1.out HK4.out hF)
  clear hF
  go_wp2_with (first
    | ((with_reducible refine wpList_load_obj (.tmp 1) w.heap.size (objL o v).toArray AB1.out OZ.out ?_ ?_ ?_ ?_); rfl; rfl; rfl))
  refine (kidCount_any W1 o v HR1.out HP.out).mono ?_
  rintro e W2 ⟨rfl, hb2⟩
  have HR2 := hide (HR1.out.below hb2)
  have HW2 := hide (HW1.out.trans (hb2.mono HW1.out.size))
  have hA2 := HA1.out.below hb2
  have HA2 := hide hA2
  clear HR1 HW1 HA1 AB1 hb2
  obtain ⟨kn, hkn⟩ : ∃ n, n = kidN o := ⟨_, rfl⟩
  rw [← hkn] at HX ⊢
  clear hkn
  by_cases hm : 128 < kn
  · have hmi : (128 : Int) < (kn : Int) := by omega
    have HE : Hid (checkO o = 42) := hide (by
      have e : wrongO o = 42 := by rw [HX.out, if_pos hm]
      unfold checkO; rw [e]; rfl)
    clear hm
    go_wp2
    go_ret
    exact ⟨by rw [HE.out]; rfl, HW2.out⟩
  have hmi : ¬ (128 : Int) < (kn : Int) := by omega
  have HY : Hid (wrongO o = innerO o) := hide (by rw [HX.out, if_neg hm])
  clear HX hm
  have c0 : W2.cell? ⟨w.heap.size, 0, none⟩ = some (.int .u8 (kd : Int)) := by rw [HKD.out]; exact hA2.cKind
  by_cases e2 : kd = 2
  · have b2 : ((kd : Int) == 2) = true := by simp; omega
    have c2 := hA2.cP
    obtain ⟨pa, ca, epa, hla⟩ := HR2.out.p.slice
    rw [List.length_map] at epa
    have HPA := hide epa
    rw [epa] at c2
    have HV : Hid (wrongO o = partsO o.parts) := hide (by rw [HY.out]; unfold innerO; rw [if_pos (by rw [← HKD.out]; exact e2)])
    clear epa hla hA2 e2
    go_wp2_with fail
    rw [← HPA.out]
    refine (rparts_any W2 v.p o.parts HR2.out.ok.p HR2.out.p).mono ?_
    rintro e W3 ⟨rfl, hw3⟩
    rw [hw3]
    clear hw3 W3 c0 c2
    obtain ⟨ev, hev⟩ : ∃ x, x = partsO o.parts := ⟨_, rfl⟩
    rw [← hev] at HV ⊢
    clear hev
    by_cases h0 : ev = 0
    · have HWr : Hid (wrongO o = 0) := hide (by rw [HV.out, h0])
      have h0b : (ev != 0) = false := by simpa using h0
      have hA9 := HA2.out
      have HR9 := HR2
      have HW9 := HW2
      clear HV h0
      have AB9 : Hid (Blk W2 w.heap.size (objL o v).toArray 30) := hide hA9
      have c1 := ObjAt.cD hA9
      rw [ED.out, ← HND.out] at c1
      clear hA9
      by_cases hd : 8192 < nd
      · have hdi : (8192 : Int) < (nd : Int) := by omega
        have HE : Hid (checkO o = 48) := hide (by unfold checkO; rw [if_neg (by rw [HWr.out]; simp), if_pos (.inl (by rw [← HND.out]; exact hd))])
        clear hd
        go_wp2
        go_ret
        exact ⟨by rw [HE.out]; rfl, HW9.out⟩
      have hdi : ¬ (8192 : Int) < (nd : Int) := by omega
      have HD : Hid (o.data.length ≤ 8192) := hide (by rw [← HND.out]; omega)
      have HDF : Hid (Value.bool (decide ((8192 : Int) < (nd : Int))) = Value.bool false) := hide (by rw [decide_eq_false hdi])
      go_wp2_with (first
        | ((with_reducible refine wpList_load_obj (.tmp 1) w.heap.size (objL o v).toArray AB9.out OZ.out ?_ ?_ ?_ ?_); rfl; rfl; exact wanted_yes (j := 4) (b := false) (t := 48) rfl rfl HDF.out (by decide : (48 : Nat) < 54)))
      refine (rlaid_any W2 o v HR9.out HS.out HWr.out HD.out).mono ?_
      rintro e WL ⟨vl, rfl, ol, hbl⟩
      obtain ⟨al, cl, rfl⟩ := own_sl ol
      have HWL := hide (HW9.out.trans (hbl.mono HW9.out.size))
      obtain ⟨nl, hnl⟩ : ∃ n, n = (layO o).length := ⟨_, rfl⟩
      rw [← hnl]
      have HNL := hide hnl
      clear hnl ol hbl c1
      by_cases hl : 8192 < nl
      · have hli : (8192 : Int) < (nl : Int) := by omega
        have HE : Hid (checkO o = 48) := hide (by unfold checkO; rw [if_neg (by rw [HWr.out]; simp), if_pos (.inr (by rw [← HNL.out]; exact hl))])
        clear hl
        go_wp2
        go_ret
        exact ⟨by rw [HE.out]; rfl, HWL.out⟩
      have hli : ¬ (8192 : Int) < (nl : Int) := by omega
      have HE : Hid (checkO o = 0) := hide (by unfold checkO; rw [if_neg (by rw [HWr.out]; simp), if_neg (by rw [← HNL.out, ← HND.out]; omega)])
      clear hl
      go_wp2
      go_ret
      exact ⟨by rw [HE.out]; rfl, HWL.out⟩
    · have h0b : (ev != 0) = true := by simpa using h0
      have HE : Hid (checkO o = ev) := hide (by unfold checkO; rw [if_pos (by rw [HV.out]; exact h0), HV.out])
      clear h0
      go_wp2
      go_ret
      exact ⟨by rw [HE.out]; rfl, HW2.out⟩
  have b2 : ((kd : Int) == 2) = false := by simp; omega
  by_cases e3 : kd = 3
  · have b3 : ((kd : Int) == 3) = true := by simp; omega
    have c2 := hA2.cI
    obtain ⟨pa, ca, epa, hla⟩ := HR2.out.i.slice
    rw [List.length_map] at epa
    have HPA := hide epa
    rw [epa] at c2
    have HV : Hid (wrongO o = treeL o.items []) := hide (by rw [HY.out]; unfold innerO; rw [if_neg (by rw [← HKD.out]; exact e2), if_pos (by rw [← HKD.out]; exact e3)])
    clear epa hla hA2 e2 e3
    go_wp2_with fail
    rw [← HPA.out]
    refine (ritems_any W2 v.i o.items HR2.out.ok.i HR2.out.i).mono ?_
    rintro e W3 ⟨rfl, hb3⟩
    have HR9 := hide (HR2.out.below hb3)
    have HW9 := hide (HW2.out.trans (hb3.mono HW2.out.size))
    have hA9 := HA2.out.below hb3
    clear hb3 c0 c2
    obtain ⟨ev, hev⟩ : ∃ x, x = treeL o.items [] := ⟨_, rfl⟩
    rw [← hev] at HV ⊢
    clear hev
    by_cases h0 : ev = 0
    · have HWr : Hid (wrongO o = 0) := hide (by rw [HV.out, h0])
      have h0b : (ev != 0) = false := by simpa using h0
      clear HV h0
      have AB9 : Hid (Blk W3 w.heap.size (objL o v).toArray 30) := hide hA9
      have c1 := ObjAt.cD hA9
      rw [ED.out, ← HND.out] at c1
      clear hA9
      by_cases hd : 8192 < nd
      · have hdi : (8192 : Int) < (nd : Int) := by omega
        have HE : Hid (checkO o = 48) := hide (by unfold checkO; rw [if_neg (by rw [HWr.out]; simp), if_pos (.inl (by rw [← HND.out]; exact hd))])
        clear hd
        go_wp2
        go_ret
        exact ⟨by rw [HE.out]; rfl, HW9.out⟩
      have hdi : ¬ (8192 : Int) < (nd : Int) := by omega
      have HD : Hid (o.data.length ≤ 8192) := hide (by rw [← HND.out]; omega)
      have HDF : Hid (Value.bool (decide ((8192 : Int) < (nd : Int))) = Value.bool false) := hide (by rw [decide_eq_false hdi])
      go_wp2_with (first
        | ((with_reducible refine wpList_load_obj (.tmp 1) w.heap.size (objL o v).toArray AB9.out OZ.out ?_ ?_ ?_ ?_); rfl; rfl; exact wanted_yes (j := 4) (b := false) (t := 48) rfl rfl HDF.out (by decide : (48 : Nat) < 54)))
      refine (rlaid_any W3 o v HR9.out HS.out HWr.out HD.out).mono ?_
      rintro e WL ⟨vl, rfl, ol, hbl⟩
      obtain ⟨al, cl, rfl⟩ := own_sl ol
      have HWL := hide (HW9.out.trans (hbl.mono HW9.out.size))
      obtain ⟨nl, hnl⟩ : ∃ n, n = (layO o).length := ⟨_, rfl⟩
      rw [← hnl]
      have HNL := hide hnl
      clear hnl ol hbl c1
      by_cases hl : 8192 < nl
      · have hli : (8192 : Int) < (nl : Int) := by omega
        have HE : Hid (checkO o = 48) := hide (by unfold checkO; rw [if_neg (by rw [HWr.out]; simp), if_pos (.inr (by rw [← HNL.out]; exact hl))])
        clear hl
        go_wp2
        go_ret
        exact ⟨by rw [HE.out]; rfl, HWL.out⟩
      have hli : ¬ (8192 : Int) < (nl : Int) := by omega
      have HE : Hid (checkO o = 0) := hide (by unfold checkO; rw [if_neg (by rw [HWr.out]; simp), if_neg (by rw [← HNL.out, ← HND.out]; omega)])
      clear hl
      go_wp2
      go_ret
      exact ⟨by rw [HE.out]; rfl, HWL.out⟩
    · have h0b : (ev != 0) = true := by simpa using h0
      have HE : Hid (checkO o = ev) := hide (by unfold checkO; rw [if_pos (by rw [HV.out]; exact h0), HV.out])
      clear h0
      go_wp2
      go_ret
      exact ⟨by rw [HE.out]; rfl, HW9.out⟩
  have b3 : ((kd : Int) == 3) = false := by simp; omega
  by_cases e4 : kd = 4
  · have b4 : ((kd : Int) == 4) = true := by simp; omega
    have c2 := hA2.cNote HR2.out.ok.t
    have HV : Hid (wrongO o = if 1024 < o.note.length then 46 else if validD o.note then 0 else 46) := hide (by rw [HY.out]; unfold innerO; rw [if_neg (by rw [← HKD.out]; exact e2), if_neg (by rw [← HKD.out]; exact e3), if_pos (by rw [← HKD.out]; exact e4)])
    obtain ⟨nn, hnn⟩ : ∃ n, n = o.note.length := ⟨_, rfl⟩
    have hsz : (⟨o.note.toArray⟩ : ByteArray).size = nn := by rw [hnn]; simp [ByteArray.size]
    rw [← hnn] at HV
    have HNN := hide hnn
    clear hA2 e2 e3 e4 hnn
    by_cases hl : 1024 < nn
    · have hli : (1024 : Int) < (nn : Int) := by omega
      have HE : Hid (checkO o = 46) := hide (by
        have e : wrongO o = 46 := by rw [HV.out, if_pos hl]
        unfold checkO; rw [e]; rfl)
      clear hl
      go_wp2
      go_ret
      exact ⟨by rw [HE.out]; rfl, HW2.out⟩
    have hli : ¬ (1024 : Int) < (nn : Int) := by omega
    have HL := hide (letters_any o.note (by rw [← HNN.out]; omega) W2)
    have HV2 : Hid (wrongO o = if validD o.note then 0 else 46) := hide (by rw [HV.out, if_neg hl])
    clear hl HV
    go_wp2_with fail
    refine HL.out.mono ?_
    rintro e W3 ⟨rfl, hw3⟩
    rw [hw3]
    clear hw3 W3 c0 c2
    obtain ⟨V, hV⟩ : ∃ V, V = validD o.note := ⟨_, rfl⟩
    rw [← hV] at HV2 ⊢
    clear hV HL
    cases V with
    | false =>
      have HE : Hid (checkO o = 46) := hide (by
        have e : wrongO o = 46 := by rw [HV2.out]; rfl
        unfold checkO; rw [e]; rfl)
      go_wp2
      go_ret
      exact ⟨by rw [HE.out]; rfl, HW2.out⟩
    | true =>
      have HWr : Hid (wrongO o = 0) := hide (by rw [HV2.out]; rfl)
      have hA9 := HA2.out
      have HR9 := HR2
      have HW9 := HW2
      clear HV2
      have AB9 : Hid (Blk W2 w.heap.size (objL o v).toArray 30) := hide hA9
      have c1 := ObjAt.cD hA9
      rw [ED.out, ← HND.out] at c1
      clear hA9
      by_cases hd : 8192 < nd
      · have hdi : (8192 : Int) < (nd : Int) := by omega
        have HE : Hid (checkO o = 48) := hide (by unfold checkO; rw [if_neg (by rw [HWr.out]; simp), if_pos (.inl (by rw [← HND.out]; exact hd))])
        clear hd
        go_wp2
        go_ret
        exact ⟨by rw [HE.out]; rfl, HW9.out⟩
      have hdi : ¬ (8192 : Int) < (nd : Int) := by omega
      have HD : Hid (o.data.length ≤ 8192) := hide (by rw [← HND.out]; omega)
      have HDF : Hid (Value.bool (decide ((8192 : Int) < (nd : Int))) = Value.bool false) := hide (by rw [decide_eq_false hdi])
      go_wp2_with (first
        | ((with_reducible refine wpList_load_obj (.tmp 1) w.heap.size (objL o v).toArray AB9.out OZ.out ?_ ?_ ?_ ?_); rfl; rfl; exact wanted_yes (j := 4) (b := false) (t := 48) rfl rfl HDF.out (by decide : (48 : Nat) < 54)))
      refine (rlaid_any W2 o v HR9.out HS.out HWr.out HD.out).mono ?_
      rintro e WL ⟨vl, rfl, ol, hbl⟩
      obtain ⟨al, cl, rfl⟩ := own_sl ol
      have HWL := hide (HW9.out.trans (hbl.mono HW9.out.size))
      obtain ⟨nl, hnl⟩ : ∃ n, n = (layO o).length := ⟨_, rfl⟩
      rw [← hnl]
      have HNL := hide hnl
      clear hnl ol hbl c1
      by_cases hl : 8192 < nl
      · have hli : (8192 : Int) < (nl : Int) := by omega
        have HE : Hid (checkO o = 48) := hide (by unfold checkO; rw [if_neg (by rw [HWr.out]; simp), if_pos (.inr (by rw [← HNL.out]; exact hl))])
        clear hl
        go_wp2
        go_ret
        exact ⟨by rw [HE.out]; rfl, HWL.out⟩
      have hli : ¬ (8192 : Int) < (nl : Int) := by omega
      have HE : Hid (checkO o = 0) := hide (by unfold checkO; rw [if_neg (by rw [HWr.out]; simp), if_neg (by rw [← HNL.out, ← HND.out]; omega)])
      clear hl
      go_wp2
      go_ret
      exact ⟨by rw [HE.out]; rfl, HWL.out⟩
  have b4 : ((kd : Int) == 4) = false := by simp; omega
  have HWr : Hid (wrongO o = 0) := hide (by rw [HY.out]; unfold innerO; rw [if_neg (by rw [← HKD.out]; exact e2), if_neg (by rw [← HKD.out]; exact e3), if_neg (by rw [← HKD.out]; exact e4)])
  have hA9 := HA2.out
  have HR9 := HR2
  have HW9 := HW2
  clear e2 e3 e4 hA2
  have AB9 : Hid (Blk W2 w.heap.size (objL o v).toArray 30) := hide hA9
  have c1 := ObjAt.cD hA9
  rw [ED.out, ← HND.out] at c1
  clear hA9
  by_cases hd : 8192 < nd
  · have hdi : (8192 : Int) < (nd : Int) := by omega
    have HE : Hid (checkO o = 48) := hide (by unfold checkO; rw [if_neg (by rw [HWr.out]; simp), if_pos (.inl (by rw [← HND.out]; exact hd))])
    clear hd
    go_wp2
    go_ret
    exact ⟨by rw [HE.out]; rfl, HW9.out⟩
  have hdi : ¬ (8192 : Int) < (nd : Int) := by omega
  have HD : Hid (o.data.length ≤ 8192) := hide (by rw [← HND.out]; omega)
  have HDF : Hid (Value.bool (decide ((8192 : Int) < (nd : Int))) = Value.bool false) := hide (by rw [decide_eq_false hdi])
  go_wp2_with (first
    | ((with_reducible refine wpList_load_obj (.tmp 1) w.heap.size (objL o v).toArray AB9.out OZ.out ?_ ?_ ?_ ?_); rfl; rfl; exact wanted_yes (j := 4) (b := false) (t := 48) rfl rfl HDF.out (by decide : (48 : Nat) < 54)))
  refine (rlaid_any W2 o v HR9.out HS.out HWr.out HD.out).mono ?_
  rintro e WL ⟨vl, rfl, ol, hbl⟩
  obtain ⟨al, cl, rfl⟩ := own_sl ol
  have HWL := hide (HW9.out.trans (hbl.mono HW9.out.size))
  obtain ⟨nl, hnl⟩ : ∃ n, n = (layO o).length := ⟨_, rfl⟩
  rw [← hnl]
  have HNL := hide hnl
  clear hnl ol hbl c1
  by_cases hl : 8192 < nl
  · have hli : (8192 : Int) < (nl : Int) := by omega
    have HE : Hid (checkO o = 48) := hide (by unfold checkO; rw [if_neg (by rw [HWr.out]; simp), if_pos (.inr (by rw [← HNL.out]; exact hl))])
    clear hl
    go_wp2
    go_ret
    exact ⟨by rw [HE.out]; rfl, HWL.out⟩
  have hli : ¬ (8192 : Int) < (nl : Int) := by omega
  have HE : Hid (checkO o = 0) := hide (by unfold checkO; rw [if_neg (by rw [HWr.out]; simp), if_neg (by rw [← HNL.out, ← HND.out]; omega)])
  clear hl
  go_wp2
  go_ret
  exact ⟨by rw [HE.out]; rfl, HWL.out⟩
set_option maxRecDepth 20000 in
set_option maxHeartbeats 1000000 in
theorem rencode_any (w : World) (o : ObjR) (v : ObjV) (hr : ObjRd w o v) (hs : TxtSz o) (hp : o.parents.length < 9223372036854775807) : Calls Tryd.prog 17 #[.agg (objL o v).toArray] w (EncC w o) := by
  have AB : Hid (Blk (w.alloc (.cells (objL o v).toArray 30)) w.heap.size (objL o v).toArray 30) := hide (Blk.made w _ _)
  have OZ : Hid ((objL o v).toArray.size = 39) := hide (objL_size o v hr.ok.t)
  have HW := hide (below_alloc w (.cells (objL o v).toArray 30))
  have HC := hide (rcheck_any _ o v (hr.below HW.out) hs hp)
  have HR := hide hr
  have HS := hide hs
  clear hr hs hp
  go_enter Tryd.func17, Tryd.ntmps17
  go_wp2_with (first
    | ((with_reducible refine wpList_load_obj (.tmp 1) w.heap.size (objL o v).toArray AB.out OZ.out ?_ ?_ ?_ ?_); rfl; rfl; rfl))
  refine HC.out.mono ?_
  rintro e W1 ⟨rfl, hb1⟩
  have HW1 := hide (HW.out.trans (hb1.mono HW.out.size))
  have AB1 := hide (AB.out.below hb1 AB.out.lt)
  clear hb1 AB HC
  by_cases h0 : checkO o = 0
  · have HK := hide h0
    have HE : Hid (encO o = layO o) := hide (by unfold encO; rw [if_pos h0])
    rw [h0]
    clear h0
    go_wp2_with (first
      | ((with_reducible refine wpList_load_obj (.tmp 1) w.heap.size (objL o v).toArray AB1.out OZ.out ?_ ?_ ?_ ?_); rfl; rfl; rfl))
    refine (rlaid_any W1 o v (HR.out.below HW1.out) HS.out (lay_le HK.out).2.1 (lay_le HK.out).2.2).mono ?_
    rintro e W2 ⟨v', rfl, h1, h2⟩
    have H1 := hide (own_baseB h1 HW1.out.size)
    have H2 := hide (HW1.out.trans (h2.mono HW1.out.size))
    clear h1 h2
    go_wp2
    go_ret2
    exact encC_mk HK.out HE.out H1.out H2.out
  · have h0b : (checkO o != 0) = true := by simpa using h0
    have HE : Hid (encO o = []) := hide (by unfold encO; rw [if_neg h0])
    clear h0
    go_wp2
    go_ret2
    exact encC_mk rfl HE.out (World.ownsRow_nil _ _ _ _) HW1.out
end Go.Proofs.YtjcfndiceinkjabDoor
