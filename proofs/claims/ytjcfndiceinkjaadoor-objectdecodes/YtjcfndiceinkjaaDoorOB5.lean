/- Same, as the program tells it. -/
import Derived.Test.YtjcfndiceinkjaaDoorOB4
namespace Go.Proofs.YtjcfndiceinkjaaDoor
set_option linter.unusedVariables false
set_option linter.unusedSimpArgs false
open Go.RowKit

def BoolC (w : World) (r : Bool) (e : Ending) (w' : World) : Prop := e = .returned (.bool r) ∧ Below w.heap.size w w'
set_option maxRecDepth 20000 in
set_option maxHeartbeats 2000000 in
theorem same_any (w : World) (a b : ObjR) (va vb : ObjV) (ha : ObjRd w a va) (hb : ObjRd w b vb) : Calls Tryd.prog 74 #[.agg (objL a va).toArray, .agg (objL b vb).toArray] w (BoolC w (sameO a b)) := by
  obtain ⟨hT0, hW0⟩ := two_made w a b va vb ha hb
  have HT := hide hT0
  have HW := hide hW0
  have cA := hT0.A.cKind
  have cB := hT0.B.cKind
  have dA := hT0.A.cD
  have dB := hT0.B.cD
  have OA := hide ha.ok
  have OB := hide hb.ok
  clear ha hb hT0 hW0
  by_cases hk : a.kind = b.kind
  · have hkb : ((a.kind : Int) == (b.kind : Int)) = true := by simp; omega
    have HK := hide hk
    clear hk
    go_enter Tryd.func74, Tryd.ntmps74
    go_wp2_with fail
    refine (bytesEqual_any _ _ _ a.data b.data HT.out.RA.d HT.out.RB.d).mono ?_
    rintro e w1 ⟨rfl, hw1⟩
    rw [← hw1] at HT HW
    clear cA cB dA dB hkb hw1
    have cA := HT.out.A.cP
    have cB := HT.out.B.cP
    cases hd : (a.data == b.data) with
    | false =>
      have HE : Hid (sameO a b = false) := hide (by unfold sameO; rw [hd]; simp)
      go_wp2
      go_ret
      exact ⟨by rw [HE.out]; rfl, HW.out⟩
    | true =>
    have HD := hide hd
    clear hd
    go_wp2_with fail
    refine (equalP w1 _ _ a.parts b.parts OA.out.p OB.out.p HT.out.RA.p HT.out.RB.p).mono ?_
    rintro e w2 ⟨rfl, hb2⟩
    have HT2 := hide (HT.out.below hb2)
    have HW2 := hide (HW.out.trans (hb2.mono HW.out.size))
    clear HT HW hb2 cA cB
    have cA := HT2.out.A.cI
    have cB := HT2.out.B.cI
    cases hd : decide (a.parts = b.parts) with
    | false =>
      have HE : Hid (sameO a b = false) := hide (by unfold sameO; rw [hd]; simp)
      go_wp2
      go_ret
      exact ⟨by rw [HE.out]; rfl, HW2.out⟩
    | true =>
    have HP := hide hd
    clear hd
    go_wp2_with fail
    refine (equalI w2 _ _ a.items b.items OA.out.i OB.out.i HT2.out.RA.i HT2.out.RB.i).mono ?_
    rintro e w3 ⟨rfl, hb3⟩
    have HT3 := hide (HT2.out.below hb3)
    have HW3 := hide (HW2.out.trans (hb3.mono HW2.out.size))
    clear HT2 HW2 hb3 cA cB
    have cA := HT3.out.A.cK OA.out.t
    have cB := HT3.out.B.cK OB.out.t
    have hg := keysGuard .eql a.tree b.tree
    have hq := keysEql a.tree b.tree OA.out.t OB.out.t
    cases hd : decide (a.items = b.items) with
    | false =>
      have HE : Hid (sameO a b = false) := hide (by unfold sameO; rw [hd]; simp)
      clear hg hq
      go_wp2
      go_ret
      exact ⟨by rw [HE.out]; rfl, HW3.out⟩
    | true =>
    have HI := hide hd
    clear hd
    cases hd : decide (a.tree = b.tree) with
    | false =>
      have HE : Hid (sameO a b = false) := hide (by unfold sameO; rw [hd]; simp)
      rw [hd] at hq
      clear hd
      go_wp2_with (first | ((with_reducible refine wpList_load_keyAt (.tmp 32) w.heap.size 4 a.tree OA.out.t HT3.out.A.tree ?_ ?_ ?_ ?_); rfl; rfl; rfl) | ((with_reducible refine wpList_load_keyAt (.tmp 34) (w.heap.size + 1) 4 b.tree OB.out.t HT3.out.B.tree ?_ ?_ ?_ ?_); rfl; rfl; rfl))
      go_ret
      exact ⟨by rw [HE.out]; rfl, HW3.out⟩
    | true =>
    have HTr := hide hd
    rw [hd] at hq
    clear hd
    go_wp2_with (first | ((with_reducible refine wpList_load_keyAt (.tmp 32) w.heap.size 4 a.tree OA.out.t HT3.out.A.tree ?_ ?_ ?_ ?_); rfl; rfl; rfl) | ((with_reducible refine wpList_load_keyAt (.tmp 34) (w.heap.size + 1) 4 b.tree OB.out.t HT3.out.B.tree ?_ ?_ ?_ ?_); rfl; rfl; rfl))
    refine (equalK w3 _ _ a.parents b.parents OA.out.k OB.out.k HT3.out.RA.k HT3.out.RB.k).mono ?_
    rintro e w4 ⟨rfl, hb4⟩
    have HT4 := hide (HT3.out.below hb4)
    have HW4 := hide (HW3.out.trans (hb4.mono HW3.out.size))
    clear HT3 HW3 hb4 cA cB hg hq
    have cA := HT4.out.A.cTime OA.out.t
    have cB := HT4.out.B.cTime OB.out.t
    have dA := HT4.out.A.cNote OA.out.t
    have dB := HT4.out.B.cNote OB.out.t
    cases hd : decide (a.parents = b.parents) with
    | false =>
      have HE : Hid (sameO a b = false) := hide (by unfold sameO; rw [hd]; simp)
      go_wp2
      go_ret
      exact ⟨by rw [HE.out]; rfl, HW4.out⟩
    | true =>
    have HPa := hide hd
    clear hd
    by_cases ht : a.time = b.time
    · have htb : (a.time == b.time) = true := by simpa using ht
      have HE : Hid (sameO a b = (a.note == b.note)) := hide (by unfold sameO; rw [decide_eq_true HK.out, HD.out, HP.out, HI.out, HTr.out, HPa.out, decide_eq_true ht]; rfl)
      clear ht
      go_wp2
      go_ret
      exact ⟨by rw [HE.out]; rfl, HW4.out⟩
    · have htb : (a.time == b.time) = false := by simpa using ht
      have HE : Hid (sameO a b = false) := hide (by unfold sameO; rw [decide_eq_false ht]; simp)
      clear ht
      go_wp2
      go_ret
      exact ⟨by rw [HE.out]; rfl, HW4.out⟩
  · have hkb : ((a.kind : Int) == (b.kind : Int)) = false := by simp; omega
    have HE : Hid (sameO a b = false) := hide (by unfold sameO; rw [decide_eq_false hk]; rfl)
    go_enter Tryd.func74, Tryd.ntmps74
    go_wp2
    go_ret
    exact ⟨by rw [HE.out]; rfl, HW.out⟩
end Go.Proofs.YtjcfndiceinkjaaDoor
