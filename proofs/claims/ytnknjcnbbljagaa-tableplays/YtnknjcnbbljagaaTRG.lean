/- A step of the script: All; any step. -/
import Derived.Test.YtnknjcnbbljagaaTRE
namespace Go.Proofs.Ytnknjcnbbljagaa
set_option linter.unusedVariables false
set_option linter.unusedSimpArgs false
namespace RR
set_option maxRecDepth 100000
open Go.RowKit

theorem stopL_flat (stop : Int) (X : List (Int × Int)) : flat (stopL stop X) = (flat X).take (2 * (stopL stop X).length) := by
  unfold stopL
  split
  · next h =>
    rw [flat_take, List.length_take, show 2 * min stop.toNat X.length = 2 * stop.toNat by omega]
  · rw [← flat_len, List.take_length]
section
variable {B z gy ge bt bm r hy he : Nat} {ti ma : Int} {T : TB} {P : Nat}
theorem prs_len (h : Inv (hsh ti ma) T P) : T.prs.length ≤ P := by
  have h1 := h.np
  have h2 := cnt_used T.y
  have e : T.prs.length = cnt T.e 1 + cnt T.y 1 := by
    rw [cnt_prs, cnt_prs]; exact List.length_append
  omega
set_option maxHeartbeats 2000000 in
theorem done_all (w : World) (H : One w B z gy ge bt bm r hy he ti ma T P) (hP : P ≤ 4398046511104) (o : Bool) (k v : Int) : Calls Try.prog 12 #[.pointer (some ⟨z, 0, none⟩), .pointer (some ⟨r, 0, none⟩), .agg (xL 8 o k v)] w (DoneC w B z gy ge bt bm r hy he ti ma P) := by
  obtain ⟨W1, hW1⟩ : ∃ W, W = w.alloc (.cells #[.int .i64 8, .bool o, .int .i64 k, .int .i64 v] 36) := ⟨_, rfl⟩
  have hb1 : Below w.heap.size w W1 := by rw [hW1]; exact below_alloc w _
  have hB1 : Blk W1 w.heap.size (xL 8 o k v) 36 := by rw [hW1]; exact Blk.made w _ _
  have hS1 := H.below hb1
  have x0 : W1.cell? ⟨w.heap.size, 0, none⟩ = some (.int .i64 8) := by rw [hB1.cell]; rfl
  have x3 : W1.cell? ⟨w.heap.size, 3, none⟩ = some (.int .i64 v) := by rw [hB1.cell]; rfl
  have hxl := hB1.lt
  have hW1' := hW1.symm
  obtain ⟨X, hX⟩ : ∃ X, X = stopL v T.prs := ⟨_, rfl⟩
  obtain ⟨PP, hPP⟩ : ∃ X, X = T.prs := ⟨_, rfl⟩
  obtain ⟨N, hN⟩ : ∃ N, N = 2 * X.length := ⟨_, rfl⟩
  obtain ⟨L, hL⟩ : ∃ N, N = 2 * PP.length := ⟨_, rfl⟩
  have hpl : PP.length ≤ 4398046511104 := by rw [hPP]; have := prs_len H.inv; omega
  have hXl : X.length ≤ PP.length := by
    rw [hX, hPP]; unfold stopL
    split
    · rw [List.length_take]; omega
    · exact Nat.le_refl _
  have eU : unt (imT T).e ++ unt (imT T).y = PP := by
    have := prsT_im T
    rw [hPP, ← this]
    show _ = List.map _ (prs (imT T).e ++ prs (imT T).y)
    rw [List.map_append]; rfl
  have HEnd : Hid (∀ W3 q, Below W1.heap.size W1 W3 → DoneC w B z gy ge bt bm r hy he ti ma P (.returned (.bool true)) (W3.drewN q)) := hide (fun W3 q hb => H.read (below_dN (hb1.trans (hb.mono hb1.size)) q))
  have HX : Hid (∀ w2, Below W1.heap.size W1 w2 → w2.cell? ⟨w.heap.size, 3, none⟩ = some (.int .i64 v) ∧ w.heap.size < w2.heap.size) := hide (fun w2 hb => ⟨(hb.cell (p := ⟨w.heap.size, 3, none⟩) hB1.lt).trans x3, Nat.lt_of_lt_of_le hB1.lt hb.size⟩)
  have HPr : Hid (Calls Try.prog 19 #[.pointer (some ⟨z, 0, none⟩), .int .i64 v] W1.drew fun e w2 => ∃ ao c, e = .returned (.slice ao N c) ∧ RdI w2 ao (flat X) ∧ Below W1.heap.size W1 w2) := hide ((pairs_any W1.drew (hS1.tb.drewN 1) v (by rw [← hPP]; omega)).mono (fun e w2 h => by
    obtain ⟨u, rfl, ho, hb⟩ := h
    rw [← hX] at ho
    obtain ⟨ao, c, rfl, _⟩ := ho.form
    rw [flat_len, ← hN] at ho
    rw [flat_len, ← hN]
    exact ⟨ao, c, rfl, RdI.own ho, below_undrew hb⟩))
  have HAl : Hid (∀ w2, Below W1.heap.size W1 w2 → Calls Try.prog 47 #[.pointer (some ⟨r, 0, none⟩)] w2 fun e w3 => ∃ ao c, e = .returned (.slice ao L c) ∧ RdI w3 ao (flat X) ∧ (L ≤ c ∧ (0 < PP.length → ∃ g, ao = some ⟨g, 0, none⟩)) ∧ Below w2.heap.size w2 w3) := hide (fun w2 hb => (all_any w2 (hS1.rb.below hb) (by rw [eU]; omega)).mono (fun e w3 h => by
    obtain ⟨u, rfl, ho, hb3⟩ := h
    rw [eU] at ho
    have hcap : ∃ ao c, u = .slice ao (2 * PP.length) c ∧ 2 * PP.length ≤ c ∧ (0 < PP.length → ∃ g, ao = some ⟨g, 0, none⟩) := by
      obtain ⟨h0, ⟨rfl, h2⟩ | ⟨g, cap, cur, rfl, hx, hh, hc, _⟩⟩ := ho
      · rw [flat_len] at h2
        exact ⟨none, 0, by rw [h2], by omega, fun h => by omega⟩
      · rw [flat_len] at hc
        rw [flat_len]
        exact ⟨_, _, rfl, hc, fun _ => ⟨g, rfl⟩⟩
    obtain ⟨ao, c, rfl, h1, h2⟩ := hcap
    have hr := (RdI.own ho).take (2 * X.length)
    rw [hX, hPP, ← stopL_flat, ← hX] at hr
    rw [hL]
    exact ⟨ao, c, rfl, hr, ⟨h1, h2⟩, hb3⟩))
  have HFi : Hid (∀ w3 ao c, (L ≤ c ∧ (0 < PP.length → ∃ g, ao = some ⟨g, 0, none⟩)) → Calls Try.prog 61 #[.slice ao L c, .int .i64 v] w3 fun e w4 => (∃ c', e = .returned (.slice ao N c')) ∧ w4 = w3) := hide (fun w3 ao c h => by
    rw [hL] at h ⊢
    rw [hN, hX, ← hPP]
    exact first_any w3 ao c v PP h.1 h.2 (by omega))
  have HSm : Hid (∀ w3 a b c d, RdI w3 a (flat X) → RdI w3 b (flat X) → Calls Try.prog 60 #[.slice a N c, .slice b N d] w3 fun e w4 => e = .returned (.bool true) ∧ ∃ q, w4 = w3.drewN q) := hide (fun w3 a b c d ha hb => sameInts_any w3 a b N c d (flat X) (by rw [flat_len, hN]) ha hb (by omega))
  clear H hS1 hB1 hb1 hW1 eU hX hPP hN hL hpl hXl
  unfold xL
  go_enter Try.func12, Try.ntmps12
  go_upto_region 1 with fail
  clear hW1'
  go_upto_region 25 with fail
  go_region_with (first
    | (go_at_call 19; (with_reducible refine HPr.out.mono ?_); rintro e w2 ⟨ao1, c1, rfl, hr1, hb2⟩; obtain ⟨y3, hy3⟩ := HX.out w2 hb2; have HR1 := hide hr1; have HB2 := hide hb2; have HA2 := hide (HAl.out w2 hb2); clear hr1 hb2)
    | (go_at_call 47; (with_reducible refine HA2.out.mono ?_); rintro e w3 ⟨ao2, c2, rfl, hr2, hc2, hb3⟩; obtain ⟨u3, hu3⟩ := HX.out w3 (HB2.out.trans (hb3.mono HB2.out.size)); have HR2 := hide hr2; have HR3 := hide (HR1.out.below hb3); have HB3 := hide (HB2.out.trans (hb3.mono HB2.out.size)); have HF3 := hide (HFi.out w3 ao2 c2 hc2); clear hr2 hb3 hc2)
    | (go_at_call 61; (with_reducible refine HF3.out.mono ?_); rintro e w4 ⟨⟨c4, rfl⟩, hw⟩; rw [hw]; clear hw; have HS4 := hide (HSm.out w3 ao1 ao2 c1 c4 HR3.out HR2.out))
    | (go_at_call 60; (with_reducible refine HS4.out.mono ?_); rintro e w5 ⟨rfl, q5, hw⟩; rw [hw]; clear hw))
  all_goals
    go_wp2
    go_ret
    exact HEnd.out _ _ HB3.out
theorem done_any (w : World) (H : One w B z gy ge bt bm r hy he ti ma T P) (hB : B ≤ w.heap.size) (hP : P + 1 ≤ 4398046511104) (d : Int) (o : Bool) (k v : Int) : Calls Try.prog 12 #[.pointer (some ⟨z, 0, none⟩), .pointer (some ⟨r, 0, none⟩), .agg (xL d o k v)] w (DoneC w B z gy ge bt bm r hy he ti ma P) := by
  by_cases h : d < 0 ∨ 8 < d
  · exact done_other w H d o k v h
  · obtain rfl | rfl | rfl | rfl | rfl | rfl | rfl | rfl | rfl : d = 0 ∨ d = 1 ∨ d = 2 ∨ d = 3 ∨ d = 4 ∨ d = 5 ∨ d = 6 ∨ d = 7 ∨ d = 8 := by omega
    · exact done_put w H hB hP o k v
    · exact done_del w H hB o k v
    · exact done_get w H o k v
    · exact done_probes w H o k v
    · exact done_len w H o k v
    · exact done_cap w H o k v
    · exact done_tombs w H o k v
    · exact done_left w H o k v
    · exact done_all w H (by omega) o k v
end
end RR
end Go.Proofs.Ytnknjcnbbljagaa
