/- A ring of one-cell elements: pop. -/
import Derived.Test.YtiogblfdchdioaaGR7i
namespace Go.Proofs.Ytiogblfdchdioaa
set_option linter.unusedVariables false
set_option linter.unusedSimpArgs false
namespace RI
open Go.RowKit
set_option maxRecDepth 100000

def PopC (w : World) (z g : Nat) (zT : TypeId) (M : Nat) (v : EL) (V : List EL) (e : Ending) (w' : World) : Prop := e = .returned (.tuple #[elV v, .bool true]) ∧ RgS w w' z g zT M V
section
variable {w : World} {z g : Nat} {zT : TypeId} {M : Nat} {V : List EL}
theorem pop_no (h : RgAt w z g zT M []) (bot : Bool) : Calls Try.prog 33 #[.pointer (some ⟨z, 0, none⟩), .bool bot] w fun e w' => e = .returned (.tuple #[elV elZ, .bool false]) ∧ w' = w := by
  obtain ⟨S, b, hz, hg, hR, hS⟩ := h.ex
  have hzl := hz.lt
  have hE := end_any hz (by simp) bot
  have hA := at_out hz (if bot then 0 else (([] : List EL).length : Int) - 1) (by cases bot <;> simp)
  clear h hz hg hR hS
  cases bot
  · rw [if_neg (by decide)] at hE hA
    rw [show ((([] : List EL).length : Nat) : Int) - 1 = -1 from rfl] at hE hA
    have HE := hide hE
    have HA := hide hA
    clear hE hA
    go_enter Try.func33, Try.ntmps33
    go_wp2_with (first | (go_at_call 46; (with_reducible refine HE.out.mono ?_); rintro e w' ⟨rfl, hw⟩; rw [hw]; clear hw) | (go_at_call 47; (with_reducible refine HA.out.mono ?_); rintro e w' ⟨rfl, hw⟩; rw [hw]; clear hw))
    go_ret2
    exact ⟨rfl, rfl⟩
  · rw [if_pos rfl] at hE hA
    have HE := hide hE
    have HA := hide hA
    clear hE hA
    go_enter Try.func33, Try.ntmps33
    go_wp2_with (first | (go_at_call 46; (with_reducible refine HE.out.mono ?_); rintro e w' ⟨rfl, hw⟩; rw [hw]; clear hw) | (go_at_call 47; (with_reducible refine HA.out.mono ?_); rintro e w' ⟨rfl, hw⟩; rw [hw]; clear hw))
    go_ret2
    exact ⟨rfl, rfl⟩
theorem popT_any (v : EL) (h : RgAt w z g zT M (V ++ [v])) (hM : M ≤ 140737488355327) : Calls Try.prog 33 #[.pointer (some ⟨z, 0, none⟩), .bool false] w (PopC w z g zT M v V) := by
  obtain ⟨S, b, hz, hg, hR, hS⟩ := h.ex
  obtain ⟨c, hc⟩ : ∃ c, c = V.length := ⟨_, rfl⟩
  rw [List.length_append, List.length_singleton, ← hc] at hz
  have hlen := hR.len
  rw [List.length_append, List.length_singleton, ← hc] at hlen
  have hRaw : Raw w z g zT S b (c + 1) := ⟨hz, hg, hR.pos (by omega), hlen, h.ne, by omega⟩
  have hE := fun (n : Nat) => end_any (hRaw.drewN n).blk (by omega) false
  rw [if_neg (by decide), show ((c + 1 : Nat) : Int) - 1 = (c : Int) by omega] at hE
  have HE := hide hE
  have hE0 := end_any hRaw.blk (by omega) false
  rw [if_neg (by decide), show ((c + 1 : Nat) : Int) - 1 = (c : Int) by omega] at hE0
  have HE0 := hide hE0
  clear hE0
  have hl := hR.last
  rw [← hc] at hl
  have HA := hide (at_in hRaw c (by omega) v hl)
  have hST := fun n => set_in (hRaw.drewN n) c (by omega) elZ
  rw [elV_zero] at hST
  have HS := hide hST
  clear hST
  have hzl := hz.lt
  have HR := hide hR
  have HNE := hide h.ne
  have HSM := hide hS
  have HC := hide hc
  have hc48 : c ≤ 281474976710656 := by omega
  clear hz hg hR hS hRaw hE hl hlen hc h
  go_enter Try.func33, Try.ntmps33
  go_upto_region 8 with (first | (go_at_call 46; (with_reducible refine HE0.out.mono ?_); rintro e w' ⟨rfl, hw⟩; rw [hw]; clear hw) | (go_at_call 47; (with_reducible refine HA.out.mono ?_); rintro e w' ⟨rfl, q, hw⟩; rw [hw]; clear hw) | (go_at_call 46; (with_reducible refine (HE.out _).mono ?_); rintro e w' ⟨rfl, hw⟩; rw [hw]; clear hw) | (go_at_call 45; (with_reducible refine (HS.out _).mono ?_); rintro e w4 ⟨rfl, h1, h2⟩; have H1 := hide h1; have H2 := hide h2; clear h1 h2))
  obtain ⟨d0, d1, d2, d3⟩ := cells3 H1.out.blk
  have hz4 := H1.out.blk.lt
  rw [show ((c + 1 : Nat) : Int) = (c : Int) + 1 by omega] at d2
  clear HE HE0 HA HS
  go_wp2
  go_ret2
  have hb := (H1.out.setC c (by have := H1.out.le; omega))
  refine ⟨rfl, ⟨g, ⟨⟨_, b, ?_, hb.row, ?_, by rw [List.length_set]; exact HSM.out⟩, HNE.out⟩, .inl rfl⟩, ((Frm.undrewN H2.out).wide (fun i _ e => .inr e)).put _ _ _ (.inl (.inl rfl))⟩
  · rw [← HC.out]; exact hb.blk
  · have := HR.out.popT elZ
    rw [← HC.out] at this
    exact this
theorem popB_any (v : EL) (h : RgAt w z g zT M (v :: V)) (hM : M ≤ 140737488355327) : Calls Try.prog 33 #[.pointer (some ⟨z, 0, none⟩), .bool true] w (PopC w z g zT M v V) := by
  obtain ⟨S, b, hz, hg, hR, hS⟩ := h.ex
  obtain ⟨c, hc⟩ : ∃ c, c = V.length := ⟨_, rfl⟩
  rw [List.length_cons, ← hc] at hz
  have hlen := hR.len
  rw [List.length_cons, ← hc] at hlen
  have hRaw : Raw w z g zT S b (c + 1) := ⟨hz, hg, hR.pos (by omega), hlen, h.ne, by omega⟩
  have hE := fun (n : Nat) => end_any (hRaw.drewN n).blk (by omega) true
  rw [if_pos rfl] at hE
  have HE := hide hE
  have hE0 := end_any hRaw.blk (by omega) true
  rw [if_pos rfl] at hE0
  have HE0 := hide hE0
  have hl := hR.first
  have hA := at_in hRaw 0 (by omega) v hl
  have hST := fun n => set_in (hRaw.drewN n) 0 (by omega) elZ
  rw [show ((0 : Nat) : Int) = 0 from rfl] at hA hST
  rw [elV_zero] at hST
  have HA := hide hA
  have HS := hide hST
  have hzl := hz.lt
  have HR := hide hR
  have HNE := hide h.ne
  have HSM := hide hS
  have HC := hide hc
  have HB := hide (spot_lt hRaw.bot (k := 1) (by omega))
  have hc48 : c ≤ 281474976710656 := by omega
  clear hz hg hR hS hRaw hE hE0 hl hlen hc h hA hST
  go_enter Try.func33, Try.ntmps33
  go_upto_region 7 with (first | (go_at_call 46; (with_reducible refine HE0.out.mono ?_); rintro e w' ⟨rfl, hw⟩; rw [hw]; clear hw) | (go_at_call 47; (with_reducible refine HA.out.mono ?_); rintro e w' ⟨rfl, q, hw⟩; rw [hw]; clear hw) | (go_at_call 46; (with_reducible refine (HE.out _).mono ?_); rintro e w' ⟨rfl, hw⟩; rw [hw]; clear hw) | (go_at_call 45; (with_reducible refine (HS.out _).mono ?_); rintro e w4 ⟨rfl, h1, h2⟩; have H1 := hide h1; have H2 := hide (Frm.undrewN h2); clear h1 h2))
  obtain ⟨d0, d1, d2, d3⟩ := cells3 H1.out.blk
  have hz4 := H1.out.blk.lt
  rw [show ((c + 1 : Nat) : Int) = (c : Int) + 1 by omega] at d2
  have hSL := slot_any H1.out.blk H1.out.bot H1.out.sz 1 (by have := H1.out.le; omega)
  rw [show ((1 : Nat) : Int) = 1 from rfl, List.length_set] at hSL
  obtain ⟨b2, hb2⟩ : ∃ b2, b2 = spot S.length b 1 := ⟨_, rfl⟩
  rw [← hb2] at hSL HB
  have HB2 := hide hb2
  have HSL := hide hSL
  clear HE HE0 HA HS hSL hb2
  go_upto_region 8 with (go_at_call 44; (with_reducible refine HSL.out.mono ?_); rintro e w' ⟨rfl, q, hw⟩; rw [hw]; clear hw)
  refine name_world (fun W' => Raw W' z g zT (S.set (spot S.length b 0) elZ) b2 (c + 1) ∧ Frm w W' (fun k => k = z ∨ k = g)) ⟨(H1.out.drewN _).setB b2 (by rw [List.length_set]; exact HB.out), (((H2.out).wide (fun i _ e => .inr e)).drewN _).put _ _ _ (.inl (.inl rfl))⟩ ?_
  rintro W2 ⟨hRaw2, hF2⟩
  clear d0 d1 d2 d3 HSL
  obtain ⟨d0, d1, d2, d3⟩ := cells3 hRaw2.blk
  have hzW2 := hRaw2.blk.lt
  rw [show ((c + 1 : Nat) : Int) = (c : Int) + 1 by omega] at d2
  have HRW2 := hide hRaw2
  have HF2 := hide hF2
  clear hRaw2 hF2
  go_wp2
  go_ret2
  have hb := (HRW2.out.setC c (by have := HRW2.out.le; omega))
  refine ⟨rfl, ⟨g, ⟨⟨_, b2, ?_, hb.row, ?_, by rw [List.length_set]; exact HSM.out⟩, HNE.out⟩, .inl rfl⟩, HF2.out.put _ _ _ (.inl (.inl rfl))⟩
  · rw [← HC.out]; exact hb.blk
  · have := HR.out.popB elZ
    rw [← HB2.out] at this
    exact this
end
end RI
end Go.Proofs.Ytiogblfdchdioaa
