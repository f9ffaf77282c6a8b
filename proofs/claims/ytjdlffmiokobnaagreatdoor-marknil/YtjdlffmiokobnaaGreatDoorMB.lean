/- A marker's parts: are they there? -/
import Derived.Test.YtjdlffmiokobnaaGreatDoorMA
import Derived.Test.YtjdlffmiokobnaaGreatDoorXW
import Derived.Test.YtjdlffmiokobnaaGreatDoorGLh
namespace Go.Proofs.YtjdlffmiokobnaaGreatDoor
set_option linter.unusedVariables false
set_option linter.unusedSimpArgs false
namespace MA
set_option maxRecDepth 100000
set_option maxHeartbeats 8000000
open Go.RowKit

theorem cfg_neq (w : World) : (binOp .neq 73 (.agg #[.int .i64 3, .int .i64 64]) (.agg #[.int .i64 0, .int .i64 0])).run Tryz.prog w = .ok (.bool true) w := by kernel_rfl
theorem cfg_same (w : World) : (binOp .neq 73 (.agg #[.int .i64 0, .int .i64 0]) (.agg #[.int .i64 0, .int .i64 0])).run Tryz.prog w = .ok (.bool false) w := by kernel_rfl
theorem isArena_yes (w : World) {a s mb : Nat} (h : Ar w a s mb) : Calls Tryz.prog 48 #[.pointer (some ⟨a, 0, none⟩)] w fun e w' => e = .returned (.bool true) ∧ Below w.heap.size w w' := by
  have HC := hide (config_any w h)
  go_enter Tryz.func48, Tryz.ntmps48
  go_wp2_with (go_at_call 83; refine HC.out.mono ?_; rintro e w1 ⟨rfl, hb⟩; have HB := hide hb; clear hb)
  go_ret
  exact ⟨rfl, HB.out⟩
theorem isArena_no (w : World) : Calls Tryz.prog 48 #[.pointer none] w fun e w' => e = .returned (.bool false) ∧ Below w.heap.size w w' := by
  have HC := hide (config_nil w)
  go_enter Tryz.func48, Tryz.ntmps48
  go_wp2_with (go_at_call 83; refine HC.out.mono ?_; rintro e w1 ⟨rfl, hb⟩; have HB := hide hb; clear hb)
  go_ret
  exact ⟨rfl, HB.out⟩
open TX in
theorem isIndex_yes (w : World) {x : Nat} {L : List Tab} {P : Nat} (h : IxL w x 16 L (fun _ => none) P) (hP : P < 549755813888) : Calls Tryz.prog 49 #[.pointer (some ⟨x, 0, none⟩)] w fun e w' => e = .returned (.bool true) ∧ IxN w w' x L (fun _ => none) (P + 1) := by
  have HH := hide h
  have HP := hide hP
  have HL := hide (len_ix h)
  clear h hP
  go_enter Tryz.func49, Tryz.ntmps49
  go_upto_region 3 with (go_at_call 39; (with_reducible refine HL.out.mono ?_); rintro e w1 ⟨A, hA, rfl, hb⟩; obtain rfl : A = [] := (by cases A with | nil => rfl | cons x A => exact absurd ((hA.mem x.1 x.2).1 (by simp)) (by simp)); have HB1 := hide hb; rw [show (([] : List (KY × EN)).length : Int) = 0 from rfl]; clear hb hA)
  have HX1 := hide (HH.out.below HB1.out)
  have HPut := hide (put_ix HX1.out HP.out kZ eZ)
  clear HL
  go_upto_region 4 with (first | ((with_reducible refine wpList_bdK0 ?_ ?_ ?_); rfl; rfl) | ((with_reducible refine wpList_bdE0 ?_ ?_ ?_); rfl; rfl) | (go_at_call 30; (with_reducible refine HPut.out.mono ?_); rintro e w2 ⟨rfl, hn⟩; have HN2 := hide hn; clear hn))
  obtain ⟨L2, h2, hs2⟩ := HN2.out.ex
  have HDel := hide (del_ix h2 kZ)
  have HS2 := hide hs2
  have hf2 : upd (putF (fun _ => none) kZ eZ) kZ none = (fun _ => none : KY → Option EN) := by
    have e : putF (fun _ => none) kZ eZ = upd (fun _ => none) kZ (some eZ) := rfl
    rw [e, upd_upd]
    exact upd_id rfl
  rw [hf2] at HDel
  clear h2 hs2 hf2 HPut
  go_wp2_with (first | ((with_reducible refine wpList_bdK0 ?_ ?_ ?_); rfl; rfl) | (go_at_call 36; (with_reducible refine HDel.out.mono ?_); rintro e w3 ⟨rfl, hn⟩; have HN3 := hide hn; clear hn))
  go_ret
  refine ⟨rfl, ?_⟩
  obtain ⟨L3, h3, hs3⟩ := HN3.out.ex
  have b1 := HB1.out.size
  have b2 := HN2.out.fr.size
  refine ⟨⟨L3, h3, fun b hb => ?_⟩, ((TX.Frm.of_below HB1.out).trans HN2.out.fr (fun _ _ e => e)).trans HN3.out.fr (fun i hi e => ?_)⟩
  · rcases hs3 b hb with e | e
    · rcases HS2.out b e with e | e
      · exact .inl e
      · exact .inr (by omega)
    · exact .inr (by omega)
  · rcases HS2.out i e with e | e
    · exact e
    · omega
open TX in
theorem isIndex_no (w : World) : Calls Tryz.prog 49 #[.pointer none] w fun e w' => e = .returned (.bool false) ∧ Below w.heap.size w w' := by
  have HL := hide (len_nil w)
  have HPut := hide (fun w => put_nil w kZ eZ)
  have HDel := hide (fun w => del_nil w kZ)
  unfold NoC at HDel
  go_enter Tryz.func49, Tryz.ntmps49
  go_wp2_with (first | (go_at_call 39; (with_reducible refine HL.out.mono ?_); rintro e w1 ⟨rfl, hb⟩; have HB1 := hide hb; clear hb) | ((with_reducible refine wpList_bdK0 ?_ ?_ ?_); rfl; rfl) | ((with_reducible refine wpList_bdE0 ?_ ?_ ?_); rfl; rfl) | (go_at_call 30; (with_reducible refine (HPut.out w1).mono ?_); rintro e w2 ⟨rfl, hb⟩; have HB2 := hide hb; clear hb) | (go_at_call 36; (with_reducible refine (HDel.out w2).mono ?_); rintro e w3 ⟨rfl, hb⟩; have HB3 := hide hb; clear hb))
  go_ret
  have b1 := HB1.out.size
  have b2 := HB2.out.size
  exact ⟨rfl, (HB1.out.trans (HB2.out.mono b1)).trans (HB3.out.mono (by omega))⟩
end MA
end Go.Proofs.YtjdlffmiokobnaaGreatDoor
