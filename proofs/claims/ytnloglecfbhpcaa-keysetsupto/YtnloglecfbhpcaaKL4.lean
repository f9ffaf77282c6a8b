/- KeySets: put; what a change leaves. -/
import Derived.Test.YtnloglecfbhpcaaKL3
import Derived.Test.YtnloglecfbhpcaaKB6
namespace Go.Proofs.Ytnloglecfbhpcaa
set_option linter.unusedVariables false
set_option linter.unusedSimpArgs false
open Go.RowKit Go.Sort Go.Shelf
set_option maxRecDepth 100000
set_option maxHeartbeats 8000000

theorem rising_insK {x : List UInt8} : ∀ {L : List (List UInt8)}, Rising L → x ∉ L → Rising (insK x L)
  | [], _, _ => List.pairwise_singleton ..
  | y :: r, h, hx => by
    obtain ⟨h1, h2⟩ := List.pairwise_cons.1 h
    rw [insK]
    split
    · rename_i e
      refine List.pairwise_cons.2 ⟨fun q hq => ?_, h⟩
      rcases List.mem_cons.1 hq with rfl | hq
      · omega
      · exact cmpK_lt_le (by omega : cmpK x y < 0) (by have := h1 q hq; omega)
    · rename_i e
      have hyx : cmpK y x < 0 := by
        have h3 := cmpK_neg x y
        rcases cmpK_range x y with q | q | q
        · exact absurd q e
        · exact absurd (cmpK_zero x y q) (fun e2 => hx (by rw [e2]; exact List.mem_cons_self ..))
        · omega
      refine List.pairwise_cons.2 ⟨fun q hq => ?_, rising_insK h2 (fun h => hx (List.mem_cons_of_mem _ h))⟩
      rcases (mem_insK x r q).1 hq with rfl | hq
      · exact hyx
      · exact h1 q hq
theorem rising_addK {x : List UInt8} {L : List (List UInt8)} (h : Rising L) : Rising (addK x L) := by
  unfold addK
  split
  · exact h
  · rename_i hx
    exact rising_insK h hx
theorem rising_foldAdd : ∀ (ks : List (List UInt8)) {S : List (List UInt8)}, Rising S → Rising (foldAdd S ks)
  | [], _, h => h
  | k :: r, _, h => rising_foldAdd r (rising_addK h)
theorem rising_nil : Rising ([] : List (List UInt8)) := List.Pairwise.nil
theorem rising_delK {x : List UInt8} {L : List (List UInt8)} (h : Rising L) : Rising (delK x L) := h.filter _
theorem grown1 (w : World) (b i : Nat) (v : Value) : w.grownBy (w.setCell ⟨b, i, none⟩ v) (some b) := ⟨rfl, rfl, rfl, by unfold World.setCell; simp, fun k _ hne => heap_setCell_other w _ k v (fun e => hne (by rw [e]))⟩
theorem put_any (W : World) (wz j zp z : Nat) (hj : j < 3) (A : Array Value) (hA : A.size = 10) (hB : Blk W wz A WT) : Calls Try.prog 5 #[.pointer (some ⟨wz, 0, none⟩), .int .i64 (j : Int), .pointer (some ⟨zp, 0, none⟩), .pointer (some ⟨z, 0, none⟩)] W fun e w' =>
    e = .returned (.bool true) ∧ Blk w' wz (((A.setIfInBounds j (.pointer (some ⟨zp, 0, none⟩))).setIfInBounds (3 + j) (.pointer (some ⟨z, 0, none⟩))).setIfInBounds (6 + j) (.bool false)) WT ∧ W.grownBy w' (some wz) := by
  have hbd : Below W.heap.size W W.drew := (Below.refl _ _).drew
  have hBd : Blk W.drew wz A WT := Blk.below hB hbd hB.lt
  have HR : Hid (∀ W', W' = ((W.drew.setCell ⟨wz, j, none⟩ (.pointer (some ⟨zp, 0, none⟩))).setCell ⟨wz, 3 + j, none⟩ (.pointer (some ⟨z, 0, none⟩))).setCell ⟨wz, 6 + j, none⟩ (.bool false) → Blk W' wz (((A.setIfInBounds j (.pointer (some ⟨zp, 0, none⟩))).setIfInBounds (3 + j) (.pointer (some ⟨z, 0, none⟩))).setIfInBounds (6 + j) (.bool false)) WT ∧ W.grownBy W' (some wz)) := hide (fun W' e => by
    subst e
    exact ⟨((hBd.set _ _).set _ _).set _ _, grownBy_trans (grownBy_trans (grownBy_trans (grownBy_below hbd) (grown1 _ _ _ _)) (grown1 _ _ _ _)) (grown1 _ _ _ _)⟩)
  have HJ := hide hj
  have HA := hide hA
  have HBd := hide hBd
  clear hbd hBd hB hj hA
  go_enter Try.func5, Try.ntmps5
  go_upto_region 1 with fail
  refine wp_norm (pt_walk _ (fun _ _ _ _ _ h => h) W wz j zp z HJ.out A HA.out HBd.out _ ?_ ?_ ?_ ?_ ?_ ?_)
  any_goals rfl
  · exact Nat.lt_of_sub_pos (by exact Nat.succ_pos _)
  simp only [Act.put, List.setIfInBounds_toArray, List.set_cons_zero, List.set_cons_succ, Exit.then]
  obtain ⟨W', hW'⟩ : ∃ W', W' = ((W.drew.setCell ⟨wz, j, none⟩ (.pointer (some ⟨zp, 0, none⟩))).setCell ⟨wz, 3 + j, none⟩ (.pointer (some ⟨z, 0, none⟩))).setCell ⟨wz, 6 + j, none⟩ (.bool false) := ⟨_, rfl⟩
  rw [← hW']
  have HE := hide (HR.out W' hW')
  clear hW' HR HBd
  go_wp2
  go_ret
  exact ⟨rfl, HE.out.1, HE.out.2⟩
theorem wA_put (E : Nat → EL) (kv : Value) (e' : EL) {zp j : Nat} (hj : j < 3) (hq : e'.q = some ⟨zp, 0, none⟩) : (((wA E kv).setIfInBounds j (.pointer (some ⟨zp, 0, none⟩))).setIfInBounds (3 + j) (.pointer (some ⟨e'.z, 0, none⟩))).setIfInBounds (6 + j) (.bool false) = wA (up E j e') kv := by
  rcases three_cases hj with rfl | rfl | rfl <;> simp [wA, up, hq]
theorem wA_none (E : Nat → EL) (kv : Value) (e' : EL) {j : Nat} (hj : j < 3) (hq : e'.q = none) : (((wA E kv).setIfInBounds j (.pointer none)).setIfInBounds (3 + j) (.pointer (some ⟨e'.z, 0, none⟩))).setIfInBounds (6 + j) (.bool true) = wA (up E j e') kv := by
  rcases three_cases hj with rfl | rfl | rfl <;> simp [wA, up, hq]
theorem wA_size (E : Nat → EL) (kv : Value) : (wA E kv).size = 10 := rfl
section
variable {TK : List (List UInt8)} {w0 W w3 w4 : World} {N wz : Nat} {E : Nat → EL} {kv : Value} {KS : List (Value × Value)}
theorem LwS.noW (h : LwS TK w0 W N wz E kv KS) : NoU W wz := NoU.blk h.wb (fun v hv u e => by
  simp only [wA, List.mem_cons, List.not_mem_nil, or_false] at hv
  rcases hv with rfl | rfl | rfl | rfl | rfl | rfl | rfl | rfl | rfl | rfl <;> first | (cases e; done) | skip
  obtain ⟨ao, c, e2, _⟩ := h.kr.slice
  rw [e2] at e
  cases e)
/-- A new set is laid in a place. -/
theorem LwS.laid (h : LwS TK w0 W N wz E kv KS) (hb : Below W.heap.size W w3) {e' : EL} (he : ElS TK w3 e') (hz : W.heap.size ≤ e'.z) (hbb : e'.q ≠ none → W.heap.size ≤ e'.b) {i : Nat} (hi : i < 3) (hg : w3.grownBy w4 (some wz)) (hw : Blk w4 wz (wA (up E i e') kv) WT) : LwS TK w0 w4 N wz (up E i e') kv KS := by
  have h3 := h.below hb
  have hT3 : Tch (fun k => k = wz) w3 w4 := Tch.grown hg rfl
  have hT : Tch (fun k => k = wz) W w4 := ((Tch.below (T := fun k => k = wz) hb)).trans hT3
  have hkv : KeepV w3 w4 := KeepV.tch hT3 (fun k hk => by rw [hk]; exact h3.noW) (fun k cs hk hb2 => by rw [hk] at hb2; exact blk_ne hb2 h3.wb (by decide) rfl)
  obtain ⟨ar, nr, cr, hrr⟩ := he.rs
  refine h.renew hi hT (he.stay (f := e') hT3 hkv (fun e => ?_) (fun hq e => ?_) (fun zp hz2 e => ?_)) hz hbb hw
  · exact blk_ne hrr.blk h3.wb (by decide) e
  · have := hbb hq
    have e2 : e'.b = wz := e
    have := h.wb.lt
    omega
  · rcases he.set with ⟨h1q, _⟩ | ⟨zp', S, h1q, h2, _⟩
    · rw [h1q] at hz2; cases hz2
    · rw [h1q] at hz2
      cases hz2
      exact blk_ne h2.blk h3.wb (by decide) e
end
theorem th_ne {j : Nat} (hj : j < 3) : thN ((j : Int) + 1) ≠ j := by
  rcases three_cases hj with rfl | rfl | rfl <;> decide
/-- A row that was made: its first keys. -/
theorem krow_mark {W : World} {B g m : Nat} {ks : List (List UInt8)} (h : OwnQ W B (.slice (some ⟨g, 0, none⟩) m m) (markL ks)) (h32 : ∀ x ∈ ks, x.length = 32) : KRow W (some ⟨g, 0, none⟩) ks := by
  refine ⟨fun i hi => ?_, h32⟩
  have hy : (markL ks)[i]? = some ks[i] := markL_lo hi
  exact ⟨g, 0, rfl, by have := own_readQ h (markL_32 h32) hy; simpa using this⟩
end Go.Proofs.Ytnloglecfbhpcaa
