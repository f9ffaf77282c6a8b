/- lent: a copy of some bytes, with 80 bytes of a mark behind them. -/
import Derived.Test.YtamajnaeladehaaDoorGL0
namespace Go.Proofs.YtamajnaeladehaaDoor
set_option linter.unusedVariables false
set_option linter.unusedSimpArgs false
open Go.RowKit

/-- Some bytes, and k bytes of the mark behind them. -/
def padL (xs : List UInt8) (k : Nat) : List UInt8 := xs ++ List.replicate k 165
theorem padL_len (xs : List UInt8) (k : Nat) : (padL xs k).length = xs.length + k := by simp [padL]
theorem padL_zero (xs : List UInt8) : padL xs 0 = xs := by simp [padL]
theorem padL_succ (xs : List UInt8) (k : Nat) : padL xs (k + 1) = padL xs k ++ [165] := by unfold padL; rw [List.replicate_succ', List.append_assoc]
theorem padL_low (xs : List UInt8) (k i : Nat) (h : i < xs.length) : (padL xs k)[i]'(by rw [padL_len]; omega) = xs[i] := by unfold padL; rw [List.getElem_append_left h]
theorem padL_high (xs : List UInt8) (k i : Nat) (h : xs.length ≤ i) (h2 : i < xs.length + k) : (padL xs k)[i]'(by rw [padL_len]; omega) = 165 := by unfold padL; rw [List.getElem_append_right h, List.getElem_replicate]
set_option maxRecDepth 20000 in
set_option maxHeartbeats 1600000 in
theorem lent_any (w : World) (v : Value) (xs : List UInt8) (hv : RdA w v xs) (hlen : xs.length ≤ 140737488353000) : Calls Tryd.prog 10 #[v] w fun e w' => ∃ g cap, e = .returned (.slice (some ⟨g, 0, none⟩) xs.length cap) ∧ OwnsB w' w.heap.size (.slice (some ⟨g, 0, none⟩) (xs.length + 80) cap) (padL xs 80) ∧ xs.length + 80 ≤ cap ∧ cap ≤ 9223372036854775807 ∧ Below w.heap.size w w' := by
  have HV := hide hv
  obtain ⟨ao, c, rfl, hl63⟩ := hv.slice
  obtain ⟨L, hL⟩ : ∃ L, L = xs.length := ⟨_, rfl⟩
  have HL := hide hL
  rw [← hL] at hlen hl63 HV ⊢
  clear hv hL
  go_enter Tryd.func10, Tryd.ntmps10
  go_wp2_with (at_builtin; refine wpList_append_rdX rfl _ _ rfl w.heap.size _ _ [] xs rfl (World.ownsRow_nil _ _ _ _) rfl HV.out ?cb ?cc ?_)
  case cb => rw [List.length_nil, ← HL.out]; omega
  case cc => exact Nat.le_refl _
  intro va w1 HO1 HG1 HW1
  have hb01 : Below w.heap.size w w1 := ⟨HG1.out.os, HG1.out.tape, HG1.out.output, HG1.out.size, fun k hk => HG1.out.block k hk (by simp [Value.ownBlock])⟩
  clear HG1 HW1
  go_wp2
  go_loopw [3, 4] (fun v i wr => ∃ (va : Value) (k : Nat), va = v ∧ i = .int .i64 k ∧ k ≤ 80 ∧ OwnsB wr w.heap.size va (padL xs k) ∧ Below w.heap.size w wr) (fun _ i _ => 80 - (intOf i).toNat)
  case atStart => exact ⟨_, 0, rfl, rfl, by omega, by rw [padL_zero]; exact HO1.out, hb01⟩
  case round =>
    clear HO1 hb01
    obtain ⟨va, k, rfl, rfl, hk, hown, hbel⟩ := hrel
    obtain ⟨ao2, cap, hva, hnn⟩ := own_formB hown
    rw [padL_len, ← HL.out] at hva
    subst hva
    have HO := hide hown
    have HN := hide hnn
    clear hown hnn
    have hsz : w.heap.size ≤ wr.heap.size := hbel.size
    by_cases hlt : k < 80
    · go_wp2_with (at_builtin; refine wpList_append_byte rfl _ _ rfl w.heap.size _ (padL xs k) rfl ?c1 wr.heap.size 1 rfl 165 165 rfl ?c2 ?c3 ?c4 ?_)
      case c1 => exact owns_below HO.out ((Below.refl _ _).alloc (Nat.le_refl _) _)
      case c2 => exact (Blk.made wr _ _).cell 0
      case c3 => rw [padL_len, ← HL.out]; omega
      case c4 => simp; omega
      intro v' w1 HO' HG HW
      go_wp2
      refine ⟨⟨_, k + 1, rfl, by go_num, by omega, ?_, own_below (hbel.alloc hsz _) (owns_below HO.out ((Below.refl _ _).alloc (Nat.le_refl _) _)) (by simp; omega) HG.out⟩, by simp [intOf]; omega⟩
      rw [padL_succ]; exact HO'.out
    · have hk80 : k = 80 := by omega
      have hk2 : ¬ (k : Int) < 80 := by omega
      have hof := HO.out.form (by rw [padL_len]; omega)
      obtain ⟨g, cap2, hvb, hgl, hgs, hcl, hcm⟩ := hof
      rw [padL_len, ← HL.out] at hvb hcl
      obtain ⟨rfl, _, rfl⟩ := (Value.slice.injEq ..).mp hvb
      unfold maxLen at hcm
      have HK := hide hk80
      have hcap : cap ≤ 9223372036854775807 := by omega
      have hLc : L ≤ cap := by omega
      clear hvb HN hk80 hlt hk
      go_wp2
      go_ret
      have e := HK.out
      have h := HO.out
      rw [e] at h
      exact ⟨g, cap, rfl, h, by omega, hcap, hbel⟩
set_option maxRecDepth 20000 in
set_option maxHeartbeats 1600000 in
theorem left_any (w : World) (B g cap : Nat) (v : Value) (xs : List UInt8) (hO : OwnsB w B (.slice (some ⟨g, 0, none⟩) (xs.length + 80) cap) (padL xs 80)) (h80 : xs.length + 80 ≤ cap) (hcap : cap ≤ 9223372036854775807) (hv : RdA w v xs) : Calls Tryd.prog 14 #[.slice (some ⟨g, 0, none⟩) xs.length cap, v] w fun e w' => e = .returned (.bool true) ∧ Below w.heap.size w w' := by
  have HV := hide hv
  have HO := hide hO
  obtain ⟨ao, c, rfl, hl63⟩ := hv.slice
  obtain ⟨L, hL⟩ : ∃ L, L = xs.length := ⟨_, rfl⟩
  have HL := hide hL
  rw [← hL] at hl63 h80 HV HO ⊢
  clear hv hL hO
  go_enter Tryd.func14, Tryd.ntmps14
  go_wp2
  go_loopw [6] (fun i wr => ∃ k : Nat, i = .int .i64 k ∧ k ≤ L + 80 ∧ Below w.heap.size w wr) (fun i _ => L + 80 - (intOf i).toNat)
  case atStart => exact ⟨0, rfl, by omega, Below.refl _ _⟩
  case round =>
    obtain ⟨k, rfl, hk, hbel⟩ := hrel
    by_cases hlt : k < L + 80
    · have hOr : OwnsB wr B (.slice (some ⟨g, 0, none⟩) (L + 80) cap) (padL xs 80) := owns_below HO.out hbel
      obtain ⟨c1, _, _⟩ := hOr.at k (by rw [padL_len, ← HL.out]; exact hlt)
      by_cases hkL : k < L
      · have hk' : k < xs.length := by rw [← HL.out]; exact hkL
        obtain ⟨bz, bo, bc, e1, hcell⟩ := RdA.at (HV.out.below hbel) k hk'
        obtain ⟨e3, -, -⟩ := (Value.slice.injEq ..).mp e1
        subst e3
        have hge : ¬ L ≤ k := by omega
        have hge2 : ¬ (L : Int) ≤ (k : Int) := by omega
        rw [padL_low xs 80 k hk'] at c1
        obtain ⟨x, hx⟩ : ∃ x : Int, x = (xs[k].toNat : Int) := ⟨_, rfl⟩
        rw [← hx] at hcell c1
        clear e1 hOr hx hk'
        go_wp2
        go_quiet (fail)
        go_wp2
        exact ⟨⟨k + 1, by go_num, by omega, hbel.trans ⟨rfl, rfl, rfl, Nat.le_refl _, fun _ _ => rfl⟩⟩, by simp [intOf]; omega⟩
      · rw [padL_high xs 80 k (by rw [← HL.out]; omega) (by rw [← HL.out]; exact hlt)] at c1
        have hge : L ≤ k := by omega
        have hge2 : (L : Int) ≤ (k : Int) := by omega
        have c1' : wr.cell? ⟨g, k, none⟩ = some (.int .u8 165) := c1
        clear c1 hOr
        go_wp2
        go_quiet (fail)
        go_wp2
        exact ⟨⟨k + 1, by go_num, by omega, hbel.trans ⟨rfl, rfl, rfl, Nat.le_refl _, fun _ _ => rfl⟩⟩, by simp [intOf]; omega⟩
    · have hnl : ¬ (k : Int) < L + 80 := by omega
      go_wp2
      go_ret
      exact ⟨rfl, hbel⟩
end Go.Proofs.YtamajnaeladehaaDoor
