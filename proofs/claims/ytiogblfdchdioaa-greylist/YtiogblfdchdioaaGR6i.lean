/- A ring of one-cell elements: at, set. -/
import Derived.Test.YtiogblfdchdioaaGR5i
namespace Go.Proofs.Ytiogblfdchdioaa
set_option linter.unusedVariables false
set_option linter.unusedSimpArgs false
namespace RI
open Go.RowKit
set_option maxRecDepth 100000

section
variable {w : World} {z g : Nat} {zT : TypeId} {S : List EL} {b c : Nat}
theorem at_in (h : Raw w z g zT S b c) (i : Nat) (hi : i < c) (v : EL) (hv : S[spot S.length b i]? = some v) : Calls Try.prog 47 #[.pointer (some ⟨z, 0, none⟩), .int .i64 (i : Int)] w fun e w' => e = .returned (.tuple #[elV v, .bool true]) ∧ ∃ q, w' = w.drewN q := by
  have HH := hide (has_any h.blk (i : Int))
  rw [decide_eq_true (show 0 ≤ (i : Int) ∧ (i : Int) < c from ⟨by omega, by omega⟩)] at HH
  have hle := h.le
  have HS := hide (slot_any (w := w.drew) h.blk h.bot h.sz i (by omega))
  have HV := hide hv
  have HR := hide h
  clear h hv hle
  go_enter Try.func47, Try.ntmps47
  go_upto_region 4 with (go_at_call 54; (with_reducible refine HH.out.mono ?_); rintro e w' ⟨rfl, hw⟩; rw [hw]; clear hw)
  refine at4_walk _ (fun _ _ _ _ _ h => h) w z g b c i (spot S.length b i) zT S v HV.out (fun w' => ∃ q, w' = w.drewN q) ⟨HR.out.blk, HR.out.row⟩ (HS.out.mono (fun e w' ⟨h1, q, h2⟩ => ⟨h1, 1 + q, by rw [h2]; exact (World.drewN_drew w q)⟩)) ?_ _ (Nat.lt_of_sub_pos (by exact Nat.succ_pos _)) rfl rfl ?_
  · rintro w' ⟨q, rfl⟩; exact ⟨HR.out.blk, HR.out.row⟩
  rintro w' ⟨q, rfl⟩
  simp only [Act.put, List.setIfInBounds_toArray, List.set_cons_zero, List.set_cons_succ]
  go_wp2
  go_ret2
  exact ⟨rfl, _, rfl⟩
theorem at_out (hz : Blk w z (rgL g S.length b c) zT) (i : Int) (hi : ¬ (0 ≤ i ∧ i < c)) : Calls Try.prog 47 #[.pointer (some ⟨z, 0, none⟩), .int .i64 i] w fun e w' => e = .returned (.tuple #[elV elZ, .bool false]) ∧ w' = w := by
  have HH := hide (has_any hz i)
  rw [decide_eq_false hi] at HH
  clear hz hi
  go_enter Try.func47, Try.ntmps47
  go_wp2_with (go_at_call 54; (with_reducible refine HH.out.mono ?_); rintro e w' ⟨rfl, hw⟩; rw [hw]; clear hw)
  go_ret2
  exact ⟨rfl, rfl⟩
/-- What a store leaves. -/
def SetC (w : World) (z g : Nat) (zT : TypeId) (S : List EL) (b c : Nat) (e : Ending) (w' : World) : Prop := e = .returned (.bool true) ∧ Raw w' z g zT S b c ∧ Frm w w' (fun k => k = g)
theorem set_in (h : Raw w z g zT S b c) (i : Nat) (hi : i < c) (v : EL) : Calls Try.prog 45 #[.pointer (some ⟨z, 0, none⟩), .int .i64 (i : Int), elV v] w (SetC w z g zT (S.set (spot S.length b i) v) b c) := by
  have HH := hide (has_any h.blk (i : Int))
  rw [decide_eq_true (show 0 ≤ (i : Int) ∧ (i : Int) < c from ⟨by omega, by omega⟩)] at HH
  have hle := h.le
  have HS := hide (slot_any (w := w.drew) h.blk h.bot h.sz i (by omega))
  have HJ := hide (spot_lt h.bot (k := i) (by omega))
  have HR := hide h
  clear h hle
  go_enter Try.func45, Try.ntmps45
  go_upto_region 3 with (go_at_call 54; (with_reducible refine HH.out.mono ?_); rintro e w' ⟨rfl, hw⟩; rw [hw]; clear hw)
  refine st3_walk _ (fun _ _ _ _ _ h => h) w z g b c i (spot S.length b i) zT S v HJ.out HR.out.ne (fun w' => ∃ q, w' = w.drewN q) HR.out.blk (HS.out.mono (fun e w' ⟨h1, q, h2⟩ => ⟨h1, 1 + q, by rw [h2]; exact (World.drewN_drew w q)⟩)) ?_ _ (Nat.lt_of_sub_pos (by exact Nat.succ_pos _)) rfl rfl rfl ?_
  · rintro w' ⟨q, rfl⟩; exact ⟨HR.out.blk, HR.out.row⟩
  rintro w' ⟨q, rfl⟩
  simp only [Act.put, List.setIfInBounds_toArray, List.set_cons_zero, List.set_cons_succ]
  have hput := (HR.out.drewN q).row.put (spot S.length b i) HJ.out v
  obtain ⟨W, hW⟩ : ∃ W, W = (w.drewN q).setCells g (ofs (spot S.length b i)) (elC v) := ⟨_, rfl⟩
  rw [← hW] at hput ⊢
  have HP := hide hput
  clear hW hput HS HH
  go_wp2
  go_ret
  have hg : w.grownBy W (some g) := grownBy_trans (grownBy_drewN w q (some g)) HP.out.2.2
  refine ⟨rfl, ⟨?_, HP.out.2.1, by rw [List.length_set]; exact HR.out.bot, by rw [List.length_set]; exact HR.out.le, HR.out.ne, by rw [List.length_set]; exact HR.out.sz⟩, Frm.of_grown (T := fun k => k = g) hg (.inl rfl)⟩
  rw [List.length_set]
  exact Blk.grown HR.out.blk hg (fun e => HR.out.ne (Option.some.inj e))
end
end RI
end Go.Proofs.Ytiogblfdchdioaa
