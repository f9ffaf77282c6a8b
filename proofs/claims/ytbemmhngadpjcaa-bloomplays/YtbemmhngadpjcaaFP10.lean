/- The document's With: two filters joined, or met. -/
import Derived.Test.YtbemmhngadpjcaaFP9
namespace Go.Proofs.Ytbemmhngadpjcaa
set_option linter.unusedVariables false
set_option linter.unusedSimpArgs false
open Go.RowKit

def opB : Bool → Bool → Bool → Bool
  | true, x, y => x && y
  | false, x, y => x || y
def withL (both : Bool) (bs cs : List Bool) : List Bool := List.zipWith (opB both) bs cs
theorem withL_len (both : Bool) (bs cs : List Bool) (h : bs.length = cs.length) : (withL both bs cs).length = bs.length := by simp [withL, h]
theorem withL_take (both : Bool) (bs cs : List Bool) (h : bs.length = cs.length) (k : Nat) (hk : k < bs.length) : (withL both bs cs).take (k + 1) = (withL both bs cs).take k ++ [opB both bs[k] (cs[k]'(by omega))] := by
  rw [List.take_succ_eq_append_getElem (by rw [withL_len both bs cs h]; exact hk)]
  simp [withL]
def RWithC (w : World) (z h : Nat) (xs : List Bool) (e : Ending) (w' : World) : Prop := e = .returned (.int .i64 0) ∧ ∃ g c, w.heap.size ≤ g ∧ RB w' z g c h xs ∧ w.grownBy w' (some z)
set_option maxRecDepth 20000 in
set_option maxHeartbeats 8000000 in
theorem rwith_any (w : World) (z g c h z2 g2 c2 : Nat) (bs cs : List Bool) (both : Bool) (f : RB w z g c h bs) (f2 : RB w z2 g2 c2 h cs) (hl : bs.length = cs.length) : Calls Try.prog 58 #[.pointer (some ⟨z, 0, none⟩), .pointer (some ⟨z2, 0, none⟩), .bool both] w (RWithC w z h (withL both bs cs)) := by
  have HF := hide f
  have HF2 := hide f2
  have HL := hide hl
  obtain ⟨T, hT⟩ : ∃ T, T = bs.length := ⟨_, rfl⟩
  have hn := f.hn
  rw [← hT] at hn
  have c0 : w.cell? ⟨z, 0, none⟩ = some (.slice (some ⟨g, 0, none⟩) T c) := by rw [hT]; exact f.zb.cell 0
  have c1 : w.cell? ⟨z, 1, none⟩ = some (.int .i64 h) := f.zb.cell 1
  have e0 : w.cell? ⟨z2, 0, none⟩ = some (.slice (some ⟨g2, 0, none⟩) T c2) := by rw [hT, hl]; exact f2.zb.cell 0
  have e1 : w.cell? ⟨z2, 1, none⟩ = some (.int .i64 h) := f2.zb.cell 1
  have HT := hide hT
  have HC := hide (And.intro c0 e0)
  have hzl := f.zb.lt
  have hz2l := f2.zb.lt
  clear f f2 hl hT
  go_enter Try.func58, Try.ntmps58
  go_wp2
  go_quiet (fail)
  clear c0 c1 e0 e1
  go_wp2
  go_loopw [7, 8] (fun s7 s8 wr => ∃ (k : Nat) (vo : Value), vo = s7 ∧ s8 = .int .i64 k ∧ k ≤ T ∧ OwnsO wr w.heap.size vo ((withL both bs cs).take k) ∧ Below w.heap.size w wr) (fun _ s8 _ => T - (intOf s8).toNat)
  case atStart => exact ⟨0, _, rfl, rfl, by omega, World.ownsRow_nil _ _ _ _, below_drewN' (Below.refl _ _) nq⟩
  case round =>
    obtain ⟨k, vo, rfl, rfl, hk, hO, hB⟩ := hrel
    have HO := hide hO
    have HB := hide hB
    have c0 : wr.cell? ⟨z, 0, none⟩ = some (.slice (some ⟨g, 0, none⟩) T c) := (hB.cell hzl).trans HC.out.1
    have e0 : wr.cell? ⟨z2, 0, none⟩ = some (.slice (some ⟨g2, 0, none⟩) T c2) := (hB.cell hz2l).trans HC.out.2
    by_cases hlt : k < T
    · have hki : (k : Int) < T := by omega
      have hkb : k < bs.length := by have := HT.out; omega
      have hkc : k < cs.length := by have := HT.out; have := HL.out; omega
      obtain ⟨x, hx⟩ : ∃ x, x = bs[k] := ⟨_, rfl⟩
      obtain ⟨y, hy⟩ : ∃ y, y = cs[k] := ⟨_, rfl⟩
      have cx : wr.cell? ⟨g, k, none⟩ = some (.bool x) := by rw [hx]; exact (HF.out.rf.below hB).at' k hkb
      have cy : wr.cell? ⟨g2, k, none⟩ = some (.bool y) := by rw [hy]; exact (HF2.out.rf.below hB).at' k hkc
      have HTk : Hid ((withL both bs cs).take (k + 1) = (withL both bs cs).take k ++ [opB both x y]) := hide (by rw [withL_take both bs cs HL.out k hkb, hx, hy])
      have HLn : Hid (((withL both bs cs).take k).length = k) := hide (by rw [List.length_take, withL_len both bs cs HL.out]; have := HT.out; omega)
      clear hO hB hx hy
      have HAl : Hid (∀ (u : Value) (v' : Value) (w3 : World), OwnsO w3 w.heap.size v' ((withL both bs cs).take k ++ [opB both x y]) → Below w.heap.size (wr.alloc (.cells #[u] 4)) w3 → OwnsO w3 w.heap.size v' ((withL both bs cs).take (k + 1)) ∧ Below w.heap.size w w3) := hide (fun u v' w3 h1 h2 => ⟨by rw [HTk.out]; exact h1, HB.out.trans (((Below.refl w.heap.size wr).alloc HB.out.size _).trans h2)⟩)
      cases both <;> cases x <;> cases y
      · skip
        go_wp2_with (at_builtin; refine wpList_append_bool rfl _ _ rfl w.heap.size _ ((withL false bs cs).take k) rfl ?e1a wr.heap.size 1 rfl (opB false false false) ?e2a ?e3a ?e4a ?_)
        case e1a => exact owns_below HO.out ((Below.refl _ _).alloc (Nat.le_refl _) _)
        case e2a => exact (Blk.made _ _ _).cell 0
        case e3a => rw [HLn.out]; omega
        case e4a => have := HB.out.size; simp; omega
        intro v' w3 HO' HB'
        obtain ⟨HO3, HB3⟩ := HAl.out _ v' w3 HO'.out HB'.out
        replace HO3 := hide HO3
        replace HB3 := hide HB3
        clear HO' HB'
        go_wp2
        exact ⟨⟨k + 1, v', rfl, by go_num, by omega, HO3.out, HB3.out⟩, by simp [intOf]; omega⟩
      · skip
        go_wp2_with (at_builtin; refine wpList_append_bool rfl _ _ rfl w.heap.size _ ((withL false bs cs).take k) rfl ?e1b wr.heap.size 1 rfl (opB false false true) ?e2b ?e3b ?e4b ?_)
        case e1b => exact owns_below HO.out ((Below.refl _ _).alloc (Nat.le_refl _) _)
        case e2b => exact (Blk.made _ _ _).cell 0
        case e3b => rw [HLn.out]; omega
        case e4b => have := HB.out.size; simp; omega
        intro v' w3 HO' HB'
        obtain ⟨HO3, HB3⟩ := HAl.out _ v' w3 HO'.out HB'.out
        replace HO3 := hide HO3
        replace HB3 := hide HB3
        clear HO' HB'
        go_wp2
        exact ⟨⟨k + 1, v', rfl, by go_num, by omega, HO3.out, HB3.out⟩, by simp [intOf]; omega⟩
      · skip
        go_wp2_with (at_builtin; refine wpList_append_bool rfl _ _ rfl w.heap.size _ ((withL false bs cs).take k) rfl ?e1c wr.heap.size 1 rfl (opB false true false) ?e2c ?e3c ?e4c ?_)
        case e1c => exact owns_below HO.out ((Below.refl _ _).alloc (Nat.le_refl _) _)
        case e2c => exact (Blk.made _ _ _).cell 0
        case e3c => rw [HLn.out]; omega
        case e4c => have := HB.out.size; simp; omega
        intro v' w3 HO' HB'
        obtain ⟨HO3, HB3⟩ := HAl.out _ v' w3 HO'.out HB'.out
        replace HO3 := hide HO3
        replace HB3 := hide HB3
        clear HO' HB'
        go_wp2
        exact ⟨⟨k + 1, v', rfl, by go_num, by omega, HO3.out, HB3.out⟩, by simp [intOf]; omega⟩
      · skip
        go_wp2_with (at_builtin; refine wpList_append_bool rfl _ _ rfl w.heap.size _ ((withL false bs cs).take k) rfl ?e1d wr.heap.size 1 rfl (opB false true true) ?e2d ?e3d ?e4d ?_)
        case e1d => exact owns_below HO.out ((Below.refl _ _).alloc (Nat.le_refl _) _)
        case e2d => exact (Blk.made _ _ _).cell 0
        case e3d => rw [HLn.out]; omega
        case e4d => have := HB.out.size; simp; omega
        intro v' w3 HO' HB'
        obtain ⟨HO3, HB3⟩ := HAl.out _ v' w3 HO'.out HB'.out
        replace HO3 := hide HO3
        replace HB3 := hide HB3
        clear HO' HB'
        go_wp2
        exact ⟨⟨k + 1, v', rfl, by go_num, by omega, HO3.out, HB3.out⟩, by simp [intOf]; omega⟩
      · skip
        go_wp2_with (at_builtin; refine wpList_append_bool rfl _ _ rfl w.heap.size _ ((withL true bs cs).take k) rfl ?e1e wr.heap.size 1 rfl (opB true false false) ?e2e ?e3e ?e4e ?_)
        case e1e => exact owns_below HO.out ((Below.refl _ _).alloc (Nat.le_refl _) _)
        case e2e => exact (Blk.made _ _ _).cell 0
        case e3e => rw [HLn.out]; omega
        case e4e => have := HB.out.size; simp; omega
        intro v' w3 HO' HB'
        obtain ⟨HO3, HB3⟩ := HAl.out _ v' w3 HO'.out HB'.out
        replace HO3 := hide HO3
        replace HB3 := hide HB3
        clear HO' HB'
        go_wp2
        exact ⟨⟨k + 1, v', rfl, by go_num, by omega, HO3.out, HB3.out⟩, by simp [intOf]; omega⟩
      · skip
        go_wp2_with (at_builtin; refine wpList_append_bool rfl _ _ rfl w.heap.size _ ((withL true bs cs).take k) rfl ?e1f wr.heap.size 1 rfl (opB true false true) ?e2f ?e3f ?e4f ?_)
        case e1f => exact owns_below HO.out ((Below.refl _ _).alloc (Nat.le_refl _) _)
        case e2f => exact (Blk.made _ _ _).cell 0
        case e3f => rw [HLn.out]; omega
        case e4f => have := HB.out.size; simp; omega
        intro v' w3 HO' HB'
        obtain ⟨HO3, HB3⟩ := HAl.out _ v' w3 HO'.out HB'.out
        replace HO3 := hide HO3
        replace HB3 := hide HB3
        clear HO' HB'
        go_wp2
        exact ⟨⟨k + 1, v', rfl, by go_num, by omega, HO3.out, HB3.out⟩, by simp [intOf]; omega⟩
      · skip
        go_wp2_with (at_builtin; refine wpList_append_bool rfl _ _ rfl w.heap.size _ ((withL true bs cs).take k) rfl ?e1g wr.heap.size 1 rfl (opB true true false) ?e2g ?e3g ?e4g ?_)
        case e1g => exact owns_below HO.out ((Below.refl _ _).alloc (Nat.le_refl _) _)
        case e2g => exact (Blk.made _ _ _).cell 0
        case e3g => rw [HLn.out]; omega
        case e4g => have := HB.out.size; simp; omega
        intro v' w3 HO' HB'
        obtain ⟨HO3, HB3⟩ := HAl.out _ v' w3 HO'.out HB'.out
        replace HO3 := hide HO3
        replace HB3 := hide HB3
        clear HO' HB'
        go_wp2
        exact ⟨⟨k + 1, v', rfl, by go_num, by omega, HO3.out, HB3.out⟩, by simp [intOf]; omega⟩
      · skip
        go_wp2_with (at_builtin; refine wpList_append_bool rfl _ _ rfl w.heap.size _ ((withL true bs cs).take k) rfl ?e1h wr.heap.size 1 rfl (opB true true true) ?e2h ?e3h ?e4h ?_)
        case e1h => exact owns_below HO.out ((Below.refl _ _).alloc (Nat.le_refl _) _)
        case e2h => exact (Blk.made _ _ _).cell 0
        case e3h => rw [HLn.out]; omega
        case e4h => have := HB.out.size; simp; omega
        intro v' w3 HO' HB'
        obtain ⟨HO3, HB3⟩ := HAl.out _ v' w3 HO'.out HB'.out
        replace HO3 := hide HO3
        replace HB3 := hide HB3
        clear HO' HB'
        go_wp2
        exact ⟨⟨k + 1, v', rfl, by go_num, by omega, HO3.out, HB3.out⟩, by simp [intOf]; omega⟩
    · have hki : ¬ (k : Int) < T := by omega
      have hkT : (withL both bs cs).take k = withL both bs cs := List.take_of_length_le (by rw [withL_len both bs cs HL.out]; have := HT.out; omega)
      have hlw : (withL both bs cs).length = T := by rw [withL_len both bs cs HL.out]; exact HT.out.symm
      rw [hkT] at hO
      obtain ⟨g3, c3, hvo, hg3, cur, hcur, h1, h2, h3⟩ := hO.parts (by omega)
      subst hvo
      have hzb := HF.out.zb.below hB hzl
      have fz : wr.frozen? ⟨z, 0, none⟩ = false := hzb.frozen 0
      have hHh := HF.out.hh
      rw [hlw] at h1 h3
      have HR : Hid (RB (wr.setCell ⟨z, 0, none⟩ (.slice (some ⟨g3, 0, none⟩) T c3)) z g3 c3 h (withL both bs cs)) := hide (by
        refine ⟨?_, ⟨cur, hcur.setOther _ _ (by show g3 ≠ z; omega), by rw [hlw]; exact h1, h2, by rw [hlw]; exact h3⟩, by rw [hlw]; exact hn, hHh⟩
        rw [hlw]
        exact hzb.set 0 _)
      have HG : Hid (w.grownBy (wr.setCell ⟨z, 0, none⟩ (.slice (some ⟨g3, 0, none⟩) T c3)) (some z)) := hide (grownBy_trans (grownBy_below hB) (grownBy_set wr z 0 _))
      rw [hlw]
      clear hO hB hcur h1 h2 h3 hkT hlw hzb
      go_wp2
      go_ret
      exact ⟨rfl, g3, c3, hg3, HR.out, HG.out⟩
set_option maxRecDepth 20000 in
set_option maxHeartbeats 8000000 in
theorem rwith_no (w : World) (z g c h z2 g2 c2 h2 : Nat) (bs cs : List Bool) (both : Bool) (f : RB w z g c h bs) (f2 : RB w z2 g2 c2 h2 cs) (hno : ¬ (h = h2 ∧ bs.length = cs.length)) : Calls Try.prog 58 #[.pointer (some ⟨z, 0, none⟩), .pointer (some ⟨z2, 0, none⟩), .bool both] w (NoWC w 70) := by
  obtain ⟨T, hT⟩ : ∃ T, T = bs.length := ⟨_, rfl⟩
  obtain ⟨T2, hT2⟩ : ∃ T, T = cs.length := ⟨_, rfl⟩
  have c0 : w.cell? ⟨z, 0, none⟩ = some (.slice (some ⟨g, 0, none⟩) T c) := by rw [hT]; exact f.zb.cell 0
  have c1 : w.cell? ⟨z, 1, none⟩ = some (.int .i64 h) := f.zb.cell 1
  have e0 : w.cell? ⟨z2, 0, none⟩ = some (.slice (some ⟨g2, 0, none⟩) T2 c2) := by rw [hT2]; exact f2.zb.cell 0
  have e1 : w.cell? ⟨z2, 1, none⟩ = some (.int .i64 h2) := f2.zb.cell 1
  rw [← hT, ← hT2] at hno
  clear f f2 hT hT2
  go_enter Try.func58, Try.ntmps58
  by_cases hTT : T = T2
  · have hhh : ((h : Int) == (h2 : Int)) = false := by rw [beq_eq_false_iff_ne]; omega
    have hti : ((T : Int) == (T2 : Int)) = true := by rw [beq_iff_eq]; omega
    have hti2 : (T : Int) = (T2 : Int) := by omega
    have hhh2 : ¬ (h : Int) = (h2 : Int) := by omega
    clear hno
    subst hTT
    clear hti hti2
    go_wp2
    go_quiet (fail)
    go_wp2
    go_ret
    exact ⟨rfl, below_drewN' (Below.refl _ _) nq⟩
  · have hti : ((T : Int) == (T2 : Int)) = false := by rw [beq_eq_false_iff_ne]; omega
    have hti2 : ¬ (T : Int) = (T2 : Int) := by omega
    clear hno
    go_wp2
    go_quiet (fail)
    go_wp2
    go_ret
    exact ⟨rfl, below_drewN' (Below.refl _ _) nq⟩
end Go.Proofs.Ytbemmhngadpjcaa
