/- Check and Encode, both ways. -/
import Derived.Test.YtjcfndiceinkjabDoorORm
import Derived.Test.YtjcfndiceinkjabDoorOC8
namespace Go.Proofs.YtjcfndiceinkjabDoor
set_option linter.unusedVariables false
set_option linter.unusedSimpArgs false
open Go.RowKit

/-- An object's encoding, if there is one. -/
def encO (o : ObjR) : List UInt8 := if checkO o = 0 then layO o else []
theorem lay_le {o : ObjR} (h : checkO o = 0) : (layO o).length ≤ 8192 ∧ wrongO o = 0 ∧ o.data.length ≤ 8192 := by
  unfold checkO at h
  split at h
  · rename_i h1; exact absurd h h1
  · split at h
    · exact absurd h (by decide)
    · rename_i h1 h2; exact ⟨by omega, Decidable.not_not.1 h1, by omega⟩
theorem enc_le (o : ObjR) : (encO o).length ≤ 8192 := by
  unfold encO
  split
  · rename_i h; exact (lay_le h).1
  · simp
set_option maxRecDepth 20000 in
set_option maxHeartbeats 1000000 in
theorem check_any (w : World) (hT8 : Tabs8 w) (o : ObjR) (v : ObjV) (hr : ObjRd w o v) (hs : TxtSz o) : Calls Tryd.prog 11 #[.agg (objL o v).toArray] w (ErrC w (checkO o)) := by
  have AB : Hid (Blk (w.alloc (.cells (objL o v).toArray 30)) w.heap.size (objL o v).toArray 30) := hide (Blk.made w _ _)
  have OZ : Hid ((objL o v).toArray.size = 39) := hide (objL_size o v hr.ok.t)
  have HW := hide (below_alloc w (.cells (objL o v).toArray 30))
  have HC := hide (laid_any _ (hT8.below HW.out) o v (hr.below HW.out) hs)
  clear hr hT8 hs
  go_enter Tryd.func11, Tryd.ntmps11
  go_wp2_with (first
    | ((with_reducible refine wpList_load_obj (.tmp 1) w.heap.size (objL o v).toArray AB.out OZ.out ?_ ?_ ?_ ?_); rfl; rfl; rfl))
  refine HC.out.mono ?_
  rintro e W1 ⟨hb1, ⟨hc, rfl⟩ | ⟨hc, z, X, rfl, he, hz⟩⟩
  · have HW1 := hide (HW.out.trans (hb1.mono HW.out.size))
    clear hb1 hc
    go_wp2
    go_ret
    exact ⟨rfl, HW1.out⟩
  · have HW1 := hide (HW.out.trans (hb1.mono HW.out.size))
    have HE := hide hc
    clear hb1 hc he hz
    go_wp2
    go_ret
    exact ⟨by rw [HE.out]; rfl, HW1.out⟩
theorem ebytes_nil (w : World) : Calls Tryd.prog 22 #[.pointer none] w (BytesC w []) := by
  go_enter Tryd.func22, Tryd.ntmps22
  go_wp2
  go_ret
  exact ⟨_, rfl, World.ownsRow_nil _ _ _ _, Below.refl _ _⟩
/-- The encoding in new memory, and the error. -/
def EncC (w : World) (o : ObjR) (e : Ending) (w' : World) : Prop := ∃ v', e = .returned (.tuple #[v', .int .i64 (checkO o)]) ∧ w'.ownsRow w.heap.size 5 1 v' (encO o).length ((encO o).map u8c) ∧ Below w.heap.size w w'
theorem encC_mk {w w' : World} {o : ObjR} {v' : Value} {c : Int} {xs : List UInt8} (hc : checkO o = c) (hx : encO o = xs) (h : w'.ownsRow w.heap.size 5 1 v' xs.length (xs.map u8c)) (hb : Below w.heap.size w w') : EncC w o (.returned (.tuple #[v', .int .i64 c])) w' := ⟨v', by rw [hc], by rw [hx]; exact h, hb⟩
set_option maxRecDepth 20000 in
set_option maxHeartbeats 1000000 in
theorem encode_any (w : World) (hT8 : Tabs8 w) (o : ObjR) (v : ObjV) (hr : ObjRd w o v) (hs : TxtSz o) : Calls Tryd.prog 6 #[.agg (objL o v).toArray] w (EncC w o) := by
  have AB : Hid (Blk (w.alloc (.cells (objL o v).toArray 30)) w.heap.size (objL o v).toArray 30) := hide (Blk.made w _ _)
  have OZ : Hid ((objL o v).toArray.size = 39) := hide (objL_size o v hr.ok.t)
  have HW := hide (below_alloc w (.cells (objL o v).toArray 30))
  have HC := hide (laid_any _ (hT8.below HW.out) o v (hr.below HW.out) hs)
  clear hr hT8 hs
  go_enter Tryd.func6, Tryd.ntmps6
  go_wp2_with (first
    | ((with_reducible refine wpList_load_obj (.tmp 1) w.heap.size (objL o v).toArray AB.out OZ.out ?_ ?_ ?_ ?_); rfl; rfl; rfl))
  refine HC.out.mono ?_
  rintro e W1 ⟨hb1, ⟨hc, rfl⟩ | ⟨hc, z, X, rfl, he, hz⟩⟩
  · have HW1 := hide (HW.out.trans (hb1.mono HW.out.size))
    have HE : Hid (encO o = []) := hide (by unfold encO; rw [if_neg hc])
    clear hb1 hc
    go_wp2_with fail
    refine (ebytes_nil W1).mono ?_
    rintro e W2 ⟨v', rfl, h1, h2⟩
    have H1 := hide (own_baseB h1 HW1.out.size)
    have H2 := hide (HW1.out.trans (h2.mono HW1.out.size))
    clear h1 h2
    go_wp2
    go_ret2
    exact encC_mk rfl HE.out H1.out H2.out
  · have HW1 := hide (HW.out.trans (hb1.mono HW.out.size))
    have HE : Hid (encO o = layO o) := hide (by unfold encO; rw [if_pos hc])
    have HK := hide hc
    have HEn := hide he
    clear hb1 hc he hz
    go_wp2_with fail
    refine (ebytes_enc W1 X z (layO o) HEn.out (by have := (lay_le HK.out).1; omega)).mono ?_
    rintro e W2 ⟨v', rfl, h1, h2⟩
    have H1 := hide (own_baseB h1 HW1.out.size)
    have H2 := hide (HW1.out.trans (h2.mono HW1.out.size))
    clear h1 h2
    go_wp2
    go_ret2
    exact encC_mk HK.out HE.out H1.out H2.out
theorem rlaid_any (w : World) (o : ObjR) (v : ObjV) (hr : ObjRd w o v) (hs : TxtSz o) (hw : wrongO o = 0) (hd : o.data.length ≤ 8192) : Calls Tryd.prog 39 #[.agg (objL o v).toArray] w (OwnC w (layO o)) := by
  obtain ⟨k1, k4⟩ := wrong_kind hw
  rcases (show o.kind = 1 ∨ o.kind = 2 ∨ o.kind = 3 ∨ o.kind = 4 by omega) with hk | hk | hk | hk
  · exact rlaid_1 w o v hr hk hd
  · exact rlaid_2 w o v hr hk hs (list_few (wrong_list hw hk))
  · exact rlaid_3 w o v hr hk hs (tree_few (wrong_tree hw hk)).1 (tree_few (wrong_tree hw hk)).2
  · exact rlaid_4 w o v hr hk hs (snap_few (wrong_snap hw hk)).1 (snap_few (wrong_snap hw hk)).2
end Go.Proofs.YtjcfndiceinkjabDoor
