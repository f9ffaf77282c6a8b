/- The program's way to an object's encoding: laid, Check, Encode. -/
import Derived.Test.YtjcfndiceinkjabDoorOLm
namespace Go.Proofs.YtjcfndiceinkjabDoor
set_option linter.unusedVariables false
set_option linter.unusedSimpArgs false
open Go.RowKit

theorem zeroEnc : Tryd.zeroCells82 = (encCells none (List.replicate 256 0) 0).toArray := by kernel_rfl
theorem zeroEnc_st (w : World) : EncSt (w.alloc (.cells Tryd.zeroCells82 82)) (fun b => b = w.heap.size) w.heap.size [] :=
  ⟨rfl, fun b hb => by rw [hb, World.size_alloc]; exact Nat.lt_succ_self _, none, [], [], List.replicate 256 0, .nil, rfl, by decide, List.length_replicate, rfl, by rw [zeroEnc]; exact Blk.made _ _ _⟩
theorem nameL_len {a : List UInt8} (h : nameL a = true) : a.length ≤ 64 := by
  unfold nameL at h
  simp only [Bool.and_eq_true, decide_eq_true_eq] at h
  omega
theorem treeL_names : ∀ (L : List ItemR) (ahead : List UInt8), treeL L ahead = 0 → ∀ p ∈ L, nameL p.1 = true
  | [], _, _, p, hp => by cases hp
  | i :: L, ahead, h, p, hp => by
    unfold treeL at h
    split at h
    · exact absurd h (by decide)
    · rename_i h1
      split at h
      · exact absurd h (by decide)
      · split at h
        · exact absurd h (by decide)
        · rcases List.mem_cons.1 hp with rfl | hp
          · simpa using h1
          · exact treeL_names L _ h p hp
theorem list_few {L : List PartR} (h : wrongListO L = 0) : L.length ≤ 128 := by
  unfold wrongListO at h
  split at h
  · exact absurd h (by decide)
  · omega
theorem tree_few {L : List ItemR} (h : wrongTreeO L = 0) : L.length ≤ 128 ∧ ∀ p ∈ L, p.1.length ≤ 64 := by
  unfold wrongTreeO at h
  split at h
  · exact absurd h (by decide)
  · exact ⟨by omega, fun p hp => nameL_len (treeL_names L [] h p hp)⟩
theorem snap_few {ps : List (List UInt8)} {note : List UInt8} (h : wrongSnapO ps note = 0) : ps.length ≤ 128 ∧ note.length ≤ 1024 := by
  unfold wrongSnapO at h
  split at h
  · exact absurd h (by decide)
  · split at h
    · exact absurd h (by decide)
    · omega
theorem wrong_kind {o : ObjR} (h : wrongO o = 0) : 1 ≤ o.kind ∧ o.kind ≤ 4 := by
  unfold wrongO at h
  split at h
  · exact absurd h (by decide)
  · omega
theorem wrong_list {o : ObjR} (h : wrongO o = 0) (hk : o.kind = 2) : wrongListO o.parts = 0 := by
  unfold wrongO at h
  split at h
  · exact absurd h (by decide)
  split at h
  · exact absurd h (by decide)
  simpa [hk] using h
theorem wrong_tree {o : ObjR} (h : wrongO o = 0) (hk : o.kind = 3) : wrongTreeO o.items = 0 := by
  unfold wrongO at h
  split at h
  · exact absurd h (by decide)
  split at h
  · exact absurd h (by decide)
  simpa [hk] using h
theorem wrong_snap {o : ObjR} (h : wrongO o = 0) (hk : o.kind = 4) : wrongSnapO o.parents o.note = 0 := by
  unfold wrongO at h
  split at h
  · exact absurd h (by decide)
  split at h
  · exact absurd h (by decide)
  simpa [hk] using h
theorem lay_any {w0 w : World} {X : Nat → Prop} {z : Nat} {o : ObjR} {v : ObjV} (h : LayIn w0 w X z [] o v) (hs : TxtSz o) (hw : wrongO o = 0) (hd : o.data.length ≤ 8192) : Calls Tryd.prog 40 #[.pointer (some ⟨z, 0, none⟩), .agg (objL o v).toArray] w (RawE w X z (layO o)) := by
  obtain ⟨k1, k4⟩ := wrong_kind hw
  rcases (show o.kind = 1 ∨ o.kind = 2 ∨ o.kind = 3 ∨ o.kind = 4 by omega) with hk | hk | hk | hk
  · exact lay_1 h hk hd
  · exact lay_2 h hk hs (list_few (wrong_list hw hk))
  · exact lay_3 h hk hs (tree_few (wrong_tree hw hk)).1 (tree_few (wrong_tree hw hk)).2
  · exact lay_4 h hk hs (snap_few (wrong_snap hw hk)).1 (snap_few (wrong_snap hw hk)).2
/-- No encoding and the error, or an Enc with the bytes. -/
def LaidP (w : World) (o : ObjR) (e : Ending) (w' : World) : Prop :=
  Below w.heap.size w w' ∧ ((checkO o ≠ 0 ∧ e = .returned (.tuple #[.pointer none, .int .i64 (checkO o)])) ∨ (checkO o = 0 ∧ ∃ z X, e = .returned (.tuple #[.pointer (some ⟨z, 0, none⟩), .int .i64 0]) ∧ EncSt w' X z (layO o) ∧ w.heap.size ≤ z))
theorem laidP_no {w w' : World} {o : ObjR} {c : Int} (hb : Below w.heap.size w w') (h : checkO o = c) (hc : c ≠ 0) : LaidP w o (.returned (.tuple #[.pointer none, .int .i64 c])) w' := ⟨hb, .inl ⟨by rw [h]; exact hc, by rw [h]⟩⟩
theorem laidP_yes {w w' : World} {o : ObjR} {z : Nat} {X : Nat → Prop} (hb : Below w.heap.size w w') (h : checkO o = 0) (he : EncSt w' X z (layO o)) (hz : w.heap.size ≤ z) : LaidP w o (.returned (.tuple #[.pointer (some ⟨z, 0, none⟩), .int .i64 0])) w' := ⟨hb, .inr ⟨h, z, X, rfl, he, hz⟩⟩
set_option maxRecDepth 20000 in
set_option maxHeartbeats 4000000 in
theorem laid_any (w : World) (hT8 : Tabs8 w) (o : ObjR) (v : ObjV) (hr : ObjRd w o v) (hs : TxtSz o) : Calls Tryd.prog 21 #[.agg (objL o v).toArray] w (LaidP w o) := by
  have hA0 : ObjAt (w.alloc (.cells (objL o v).toArray 30)) w.heap.size o v := Blk.made w _ _
  have AB : Hid (Blk (w.alloc (.cells (objL o v).toArray 30)) w.heap.size (objL o v).toArray 30) := hide hA0
  have OZ : Hid ((objL o v).toArray.size = 39) := hide (objL_size o v hr.ok.t)
  have HW := hide (below_alloc w (.cells (objL o v).toArray 30))
  have HR0 := hide hr
  have H8 := hide (hT8.below (below_alloc w (.cells (objL o v).toArray 30)))
  have HS := hide hs
  obtain ⟨ao, cp, ed, _⟩ := hr.d.slice
  have ED := hide ed
  obtain ⟨nd, hnd⟩ : ∃ n, n = o.data.length := ⟨_, rfl⟩
  have HND := hide hnd
  clear hr hT8 hs hA0 ed hnd
  obtain ⟨W0, hW0⟩ : ∃ W, W = w.alloc (.cells (objL o v).toArray 30) := ⟨_, rfl⟩
  go_enter Tryd.func21, Tryd.ntmps21
  go_wp2_with (first
    | ((with_reducible refine wpList_load_obj (.tmp 1) w.heap.size (objL o v).toArray AB.out OZ.out ?_ ?_ ?_ ?_); rfl; rfl; rfl))
  rw [← hW0] at HW H8 AB ⊢
  refine (wrong_any W0 H8.out o v (HR0.out.below HW.out) HS.out).mono ?_
  rintro e W1 ⟨rfl, hb1⟩
  have HW1 := hide (HW.out.trans (hb1.mono HW.out.size))
  have AB1 := hide (AB.out.below hb1 AB.out.lt)
  have hA1 : ObjAt W1 w.heap.size o v := AB1.out
  have c1 := hA1.cD
  rw [ED.out, ← HND.out] at c1
  clear AB H8 HW hW0 hb1 hA1
  by_cases hw : wrongO o = 0
  · rw [hw]
    have HWr := hide hw
    clear hw
    by_cases hd : 8192 < nd
    · have hdi : (8192 : Int) < (nd : Int) := by omega
      have HE : Hid (checkO o = 48) := hide (by unfold checkO; rw [if_neg (by rw [HWr.out]; simp), if_pos (.inl (by rw [← HND.out]; exact hd))])
      go_wp2
      go_ret2
      exact laidP_no HW1.out HE.out (by decide)
    · have hdi : ¬ (8192 : Int) < (nd : Int) := by omega
      have HD : Hid (o.data.length ≤ 8192) := hide (by rw [← HND.out]; omega)
      have AB2 : Hid (Blk (W1.alloc (.cells Tryd.zeroCells82 82)) w.heap.size (objL o v).toArray 30) := hide (AB1.out.below (below_alloc _ _) AB1.out.lt)
      have HI : Hid (LayIn w (W1.alloc (.cells Tryd.zeroCells82 82)) (fun b => b = W1.heap.size) W1.heap.size [] o v) := hide ⟨HR0.out, HW1.out.trans ((below_alloc _ _).mono HW1.out.size), HW1.out.size, zeroEnc_st W1⟩
      go_wp2_with (first
        | ((with_reducible refine wpList_load_obj (.tmp 1) w.heap.size (objL o v).toArray AB2.out OZ.out ?_ ?_ ?_ ?_); rfl; rfl; rfl))
      refine (lay_any HI.out HS.out HWr.out HD.out).mono ?_
      rintro e W2 ⟨rfl, h1, h2⟩
      have HI2 := hide (HI.out.raw h1 h2)
      clear h1 h2 HI AB1 AB2 c1
      go_wp2_with fail
      refine (elen_enc W2 _ _ _ HI2.out.enc).mono ?_
      rintro e W3 ⟨rfl, rfl⟩
      obtain ⟨nl, hnl⟩ : ∃ n, n = (layO o).length := ⟨_, rfl⟩
      rw [← hnl]
      have HNL := hide hnl
      clear hnl
      by_cases hl : 8192 < nl
      · have hli : (8192 : Int) < (nl : Int) := by omega
        have HE : Hid (checkO o = 48) := hide (by unfold checkO; rw [if_neg (by rw [HWr.out]; simp), if_pos (.inr (by rw [← HNL.out]; exact hl))])
        go_wp2
        go_ret2
        exact laidP_no HI2.out.old HE.out (by decide)
      · have hli : ¬ (8192 : Int) < (nl : Int) := by omega
        have HE : Hid (checkO o = 0) := hide (by unfold checkO; rw [if_neg (by rw [HWr.out]; simp), if_neg (by rw [← HNL.out, ← HND.out]; omega)])
        go_wp2
        go_ret2
        exact laidP_yes HI2.out.old HE.out HI2.out.enc HW1.out.size
  · have hwb : (wrongO o != 0) = true := by simpa using hw
    have HE : Hid (checkO o = wrongO o ∧ wrongO o ≠ 0) := hide ⟨by unfold checkO; rw [if_pos hw], hw⟩
    clear hw
    go_wp2
    go_ret2
    exact laidP_no HW1.out HE.out.1 HE.out.2
end Go.Proofs.YtjcfndiceinkjabDoor
