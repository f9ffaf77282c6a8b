/- How many kids an object has. -/
import Derived.Test.YtjcfndiceinkjaaDoorOC4
namespace Go.Proofs.YtjcfndiceinkjaaDoor
set_option linter.unusedVariables false
set_option linter.unusedSimpArgs false
open Go.RowKit

def kidN (o : ObjR) : Nat := if o.kind = 2 then o.parts.length else if o.kind = 3 then o.items.length else if o.kind = 4 then 1 + o.parents.length else 0
set_option maxRecDepth 20000 in
set_option maxHeartbeats 1000000 in
theorem kidCount_any (w : World) (o : ObjR) (v : ObjV) (hr : ObjRd w o v) (hp : o.parents.length < 9223372036854775807) : Calls Tryd.prog 24 #[.agg (objL o v).toArray] w (ErrC w (kidN o)) := by
  have hA0 : ObjAt (w.alloc (.cells (objL o v).toArray 30)) w.heap.size o v := Blk.made w _ _
  have HW := hide (below_alloc w (.cells (objL o v).toArray 30))
  obtain ⟨pa, ca, epa, hla⟩ := hr.p.slice
  obtain ⟨ia, da, eia, hia⟩ := hr.i.slice
  obtain ⟨ka, dk, eka, hka⟩ := hr.k.slice
  rw [List.length_map] at epa eia eka
  have c0 := hA0.cKind
  have c2 := hA0.cP
  have c3 := hA0.cI
  have c4 := hA0.cK hr.ok.t
  rw [epa] at c2
  rw [eia] at c3
  rw [eka] at c4
  obtain ⟨np, hnp⟩ : ∃ n, n = o.parts.length := ⟨_, rfl⟩
  obtain ⟨ni, hni⟩ : ∃ n, n = o.items.length := ⟨_, rfl⟩
  obtain ⟨nk, hnk⟩ : ∃ n, n = o.parents.length := ⟨_, rfl⟩
  have HE : Hid (kidN o = if o.kind = 2 then np else if o.kind = 3 then ni else if o.kind = 4 then 1 + nk else 0) := hide (by unfold kidN; rw [hnp, hni, hnk])
  rw [← hnp] at c2
  rw [← hni] at c3
  rw [← hnk] at c4 hp
  obtain ⟨n1, hn1⟩ : ∃ n, n = 1 + nk := ⟨_, rfl⟩
  have hw1 : IntKind.i64.wrap (1 + (nk : Int)) = (n1 : Int) := by rw [show 1 + (nk : Int) = (n1 : Int) by omega]; exact wrapi64_nat n1 (by omega)
  rw [← hn1] at HE
  clear hr hA0 epa eia eka hnp hni hnk hn1 hla hia hka hp
  by_cases h2 : o.kind = 2
  · have b2 : ((o.kind : Int) == 2) = true := by simp; omega
    have HF : Hid (kidN o = np) := hide (by rw [HE.out, if_pos h2])
    clear h2
    go_enter Tryd.func24, Tryd.ntmps24
    go_wp2
    go_ret
    exact ⟨by rw [HF.out]; rfl, HW.out⟩
  have b2 : ((o.kind : Int) == 2) = false := by simp; omega
  by_cases h3 : o.kind = 3
  · have b3 : ((o.kind : Int) == 3) = true := by simp; omega
    have HF : Hid (kidN o = ni) := hide (by rw [HE.out, if_neg h2, if_pos h3])
    clear h2 h3
    go_enter Tryd.func24, Tryd.ntmps24
    go_wp2
    go_ret
    exact ⟨by rw [HF.out]; rfl, HW.out⟩
  have b3 : ((o.kind : Int) == 3) = false := by simp; omega
  by_cases h4 : o.kind = 4
  · have b4 : ((o.kind : Int) == 4) = true := by simp; omega
    have HF : Hid (kidN o = n1) := hide (by rw [HE.out, if_neg h2, if_neg h3, if_pos h4])
    clear h2 h3 h4
    go_enter Tryd.func24, Tryd.ntmps24
    go_wp2
    go_ret
    exact ⟨by rw [HF.out]; rfl, HW.out⟩
  have b4 : ((o.kind : Int) == 4) = false := by simp; omega
  have HF : Hid (kidN o = 0) := hide (by rw [HE.out, if_neg h2, if_neg h3, if_neg h4])
  clear h2 h3 h4
  go_enter Tryd.func24, Tryd.ntmps24
  go_wp2
  go_ret
  exact ⟨by rw [HF.out]; rfl, HW.out⟩
end Go.Proofs.YtjcfndiceinkjaaDoor
