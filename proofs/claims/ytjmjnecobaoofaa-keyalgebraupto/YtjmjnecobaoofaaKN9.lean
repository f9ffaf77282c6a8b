/- The iterator of All: what it tells, whatever its rounds do. -/
import Derived.Test.YtjmjnecobaoofaaKN7
namespace Go.Proofs.Ytjmjnecobaoofaa
set_option linter.unusedVariables false
set_option linter.unusedSimpArgs false
open Go.RowKit Go.Shelf
set_option maxRecDepth 100000
attribute [local go_sem] Oper.semAt_some

/-- A row of cells stays as it is. -/
structure KeepR (g : Nat) (W W' : World) : Prop where
  size : W.heap.size ≤ W'.heap.size
  same : ∀ (cs : Array Value) (t : TypeId) (fz : Nat × Nat), W.heap[g]? = some (.cells cs t fz) → W'.heap[g]? = W.heap[g]?
theorem KeepR.trans {g : Nat} {A B C : World} (h : KeepR g A B) (k : KeepR g B C) : KeepR g A C := ⟨Nat.le_trans h.size k.size, fun cs t fz h1 => (k.same cs t fz ((h.same cs t fz h1).trans h1)).trans (h.same cs t fz h1)⟩
theorem KeepR.below {g : Nat} {A B : World} (h : Below A.heap.size A B) : KeepR g A B := ⟨h.size, fun _ _ _ h1 => h.block g (Array.getElem?_eq_some_iff.1 h1).1⟩
theorem KeepR.keeping (g : Nat) : Keeping (KeepR g) := ⟨fun _ _ _ h k => h.trans k, fun W l q o' h => ⟨by simp, fun cs t fz h1 => by
  by_cases e : g = l
  · rw [e, h] at h1; cases h1
  · exact World.putObj_heap_other e⟩⟩
theorem KeepR.grown {g : Nat} {A B : World} {row : Option Nat} (h : A.grownBy B row) (hr : row ≠ some g) : KeepR g A B := ⟨h.size, fun cs t fz h1 => h.block g (Array.getElem?_eq_some_iff.1 h1).1 (fun e => hr e.symm)⟩
def gOf : Option Addr → Nat
  | some a => a.block
  | none => 0
theorem KRow.keepR {W W' : World} {ao : Option Addr} {ks : List (List UInt8)} (h : KRow W ao ks) (k : KeepR (gOf ao) W W') : KRow W' ao ks := by
  refine ⟨fun i hi => ?_, h.len⟩
  obtain ⟨g, o, rfl, hr⟩ := h.at' i hi
  refine ⟨g, o, rfl, fun j v hj => ?_⟩
  have hc := hr j v hj
  have hb : W'.heap[g]? = W.heap[g]? := by
    cases ho : W.heap[g]? with
    | none => unfold World.cell? at hc; rw [ho] at hc; simp at hc
    | some ob =>
      cases ob with
      | cells cs t fz => rw [← ho]; exact k.same cs t fz ho
      | _ => unfold World.cell? at hc; rw [ho] at hc; simp at hc
  exact (by unfold World.cell? at hc ⊢; rw [hb]; exact hc)
def riS (ks : List (List UInt8)) (xs : List K32) : Prop := xs.map Subtype.val = ks
def riFit (ks : List (List UInt8)) (pre : List K32) (x : K32) (_ _ : World) : Prop := ((pre ++ [x]).map Subtype.val) <+: ks
def riF (bx : Nat) : Value := .func (.func 45) #[] #[.pointer (some ⟨bx, 0, none⟩)]
set_option maxHeartbeats 4000000 in
theorem rising_fit (n : Nat) (w : World) (bx : Nat) (ao : Option Addr) (cap : Nat) (ks : List (List UInt8)) (hb : Blk w bx #[.slice ao ks.length cap] 48) (hk : KRow w ao ks) (hn : ks.length ≤ 4398046511104) :
    SeqKp Fence.wide n Try.prog 45 #[.pointer (some ⟨bx, 0, none⟩)] keV (KeepR (gOf ao)) (riS ks) (riFit ks) w := by
  intro l J Jx W hW hJ hJx hY h0
  refine callsIn_of_wp Try.func45 rfl trivial ?_ rfl
  simp only [Try.ntmps45, List.size_toArray, List.length_cons, List.length_nil, Nat.reduceAdd, Nat.reduceSub, Array.replicate_succ, Array.replicate_zero, List.push_toArray, List.append_toArray, List.nil_append, List.cons_append]
  obtain ⟨m, hm⟩ : ∃ m, m = ks.length := ⟨_, rfl⟩
  rw [← hm] at hb hn
  have hB := hb.below hW hb.lt
  have cb : W.cell? ⟨bx, 0, none⟩ = some (.slice ao m cap) := by rw [hB.cell]; rfl
  have hbl := hB.lt
  have HK := hide (hk.below hW)
  have HY := hide hY
  have HJ := hide hJ
  have HJ0 := hide h0
  have HM := hide hm
  clear hY hJ hJx hW h0 hb hk hB hm
  gi_wp2
  gi_loopw [7] (fun t wr => ∃ (i : Nat) (pre : List K32), t = .int .i64 i ∧ i ≤ m ∧ pre.map Subtype.val = ks.take i ∧ J pre wr ∧ KRow wr ao ks) (fun t _ => m - (intOf t).toNat)
  case atStart => exact ⟨0, [], rfl, Nat.zero_le _, rfl, HJ0.out, HK.out⟩
  case round =>
    clear HJ0 HK cb hbl
    obtain ⟨i, pre, rfl, hi, hpre, hJp, hkr⟩ := hrel
    have HJp := hide hJp
    have HKR := hide hkr
    have HP := hide hpre
    clear hJp hpre
    by_cases hlt : i < m
    · have hji : (i : Int) < (m : Int) := by omega
      have hil : i < ks.length := by rw [← HM.out]; exact hlt
      obtain ⟨g, o, rfl, hr⟩ := hkr.at' i hil
      obtain ⟨x, hx⟩ : ∃ x, x = ks[i] := ⟨_, rfl⟩
      have hx32 : x.length = 32 := by rw [hx]; exact hkr.len _ (List.getElem_mem _)
      rw [← hx] at hr
      have hgl : g < wr.heap.size := by
        have := hr 0 (u8c (x.headD 0)) (by cases x with | nil => simp at hx32 | cons a r => rfl)
        exact World.block_lt_of_cell? wr _ this
      have HRA := hide hr
      have HX := hide hx32
      have HT : Hid (ks.take (i + 1) = ks.take i ++ [x]) := hide (by rw [List.take_add_one, List.getElem?_eq_getElem hil, hx]; rfl)
      have HFit : Hid (riFit ks pre ⟨x, hx32⟩ wr wr) := hide (by
        unfold riFit
        rw [List.map_append, HP.out]
        show ks.take i ++ [x] <+: ks
        rw [← HT.out]
        exact List.take_prefix _ _)
      clear hkr hr hx
      gi_upto_region 2 with fail
      refine wpIn_wide.2 ?_
      go_wp2_with (first | ((with_reducible refine wpList_load_keyAt (.tmp 9) g (o + i * 32) x HX.out HRA.out ?_ ?_ ?_ ?_); rfl; rfl; rfl) | ((with_reducible refine wpList_put_key ?_ (.tmp 4) (.tmp 10) ?_ wr.heap.size ?_ wr ?_ ?_ x HX.out ?_ ?_); rfl; rfl; rfl; rfl; rfl; rfl; intro w2 HK2 hb2; have HJ3 := hide (ownFrom_bel HJ.out HJp.out hb2); have HKR2 := hide (HKR.out.below hb2); clear hb2))
      obtain ⟨fn, tmps, assign, bod, hy, hR⟩ := HY.out pre ⟨x, hx32⟩ w2 w2 HJ3.out (Below.refl _ _) HFit.out
      unfold keV at hy
      dsimp only at hy
      have HR := hide hR
      clear hR
      simp only [Act.put]
      gi_wp2_with ((with_reducible refine wpListIn_keyK (.tmp 4) wr.heap.size x HK2.out ?_ ?_ ?_ ?_); rfl; rfl; rfl)
      refine ⟨fun h => (by cases h), ?_⟩
      refine HR.out.mono ?_
      rintro e W3 (⟨rfl, hJ4, hk4⟩ | ⟨rfl, hJx4⟩)
      · have HJ4 := hide hJ4
        have HK4 := hide (HKR2.out.keepR hk4)
        clear hJ4 hk4 HR hy
        gi_wp2
        go_roundw
        case rel => exact ⟨i + 1, pre ++ [⟨x, hx32⟩], by go_num, by omega, by rw [List.map_append, HP.out, HT.out]; rfl, HJ4.out, HK4.out⟩
        case measure => simp [intOf]; omega
      · have HX4 := hide hJx4
        clear hJx4 HR hy
        gi_wp2
        refine bodyPost_ret (results_noneK rfl _ _) rfl ?_
        exact ⟨⟨_, rfl⟩, .inr ⟨_, HX4.out⟩⟩
    · have hji : ¬ (i : Int) < (m : Int) := by omega
      have HE : Hid (riS ks pre) := hide (by
        unfold riS
        rw [HP.out, List.take_of_length_le (by rw [← HM.out]; omega)])
      clear hkr
      gi_wp2
      refine bodyPost_end (results_noneK rfl _ _) rfl ?_
      exact ⟨⟨_, rfl⟩, .inl ⟨pre, HE.out, HJp.out⟩⟩
end Go.Proofs.Ytjmjnecobaoofaa
