/- A work list: none, New, Push, look, Bottom, Top, Len. -/
import Derived.Test.YtjdlffmiokobnaaGreatDoorGLg0
namespace Go.Proofs.YtjdlffmiokobnaaGreatDoor
set_option linter.unusedVariables false
set_option linter.unusedSimpArgs false
namespace RG
open Go.RowKit
set_option maxRecDepth 100000

section
variable {w : World} {z g : Nat} {M : Nat} {V : List EL}
theorem lnone_no (h : RgAt w z g LT M V) : Calls Tryz.prog 44 #[.pointer (some ⟨z, 0, none⟩)] w fun e w' => e = .returned (.bool false) ∧ w' = w := by
  obtain ⟨S, b, hz, _, _, _⟩ := h.ex
  obtain ⟨d0, d1, d2, d3⟩ := cells3 hz
  have hzl := hz.lt
  generalize S.length = n at *
  have hnil : ∀ W, (binOp .eql 57 (.slice (some ⟨g, 0, none⟩) n n) (.slice none 0 0)).run Tryz.prog W = .ok (.bool false) W := fun W => by kernel_rfl
  clear h hz
  go_enter Tryz.func44, Tryz.ntmps44
  go_wp2
  go_ret
  exact ⟨rfl, rfl⟩
theorem lnone_yes (w : World) : Calls Tryz.prog 44 #[.pointer none] w fun e w' => e = .returned (.bool true) ∧ w' = w := by
  go_enter Tryz.func44, Tryz.ntmps44
  go_wp2
  go_ret
  exact ⟨rfl, rfl⟩
theorem newList_any (w : World) : Calls Tryz.prog 20 #[] w (NewC w LT M []) := by
  have HN := hide (newRow_any w (.slice none 0 0) [] (RowR.nil w) (by decide))
  go_enter Tryz.func20, Tryz.ntmps20
  go_wp2_with (go_at_call 47; (with_reducible refine HN.out.mono ?_); rintro e w2 ⟨g, rfl, h1, h2, h3⟩; have H1 := hide h1; have H2 := hide h2; have H3 := hide h3; clear h1 h2 h3; simp only [rgL])
  go_ret
  have hs := H3.out.size
  refine ⟨w2.heap.size, g, rfl, ⟨⟨[], 0, Blk.made w2 _ _, H1.out.below (below_alloc _ _) H1.out.lt, Ring.whole [], Nat.zero_le _⟩, Nat.ne_of_gt H1.out.lt⟩, hs, H2.out, H3.out.alloc hs _⟩
theorem lpush_any (h : RgAt w z g LT M V) (hV : V.length ≤ M) (hB : EB * (2 * M + 1) ≤ 281474976710656) (ks : List UInt8) (hks : ks.length = 32) : Calls Tryz.prog 84 #[.pointer (some ⟨z, 0, none⟩), .agg (kA ks)] w (PushC w z g LT M (V ++ [greyOf ks hks])) := by
  obtain ⟨W0, hW0⟩ : ∃ W, W = w.alloc (.cells (kA ks) 46) := ⟨_, rfl⟩
  have hb0 : Below w.heap.size w W0 := by rw [hW0]; exact below_alloc w _
  have hk0 : BoxK W0 w.heap.size ks := by rw [hW0]; exact Blk.made w _ _
  have h0 := h.below hb0
  have hlt := h.lt
  obtain ⟨k, hkk⟩ : ∃ k, k = w.heap.size := ⟨_, rfl⟩
  rw [← hkk] at hk0 hlt
  have HK := hide hk0
  have HB0 := hide hb0
  have HZK : Hid (k ≠ z) := hide (Nat.ne_of_gt hlt.1)
  have HGK : Hid (k ≠ g) := hide (Nat.ne_of_gt hlt.2)
  have HN := hide (lnone_no h0)
  have HP := hide (push_any (w := W0.drew) (h0.drewN 1) hV hB false (greyOf ks hks))
  clear h hk0 hb0 hlt h0
  go_enter Tryz.func84, Tryz.ntmps84
  go_upto_region 1 with fail
  rw [← hW0, ← hkk]
  clear hW0 hkk
  go_upto_region 2 with (go_at_call 44; (with_reducible refine HN.out.mono ?_); rintro e w' ⟨rfl, hw⟩; rw [hw]; clear hw)
  refine lp2_walk _ (fun _ _ _ _ _ h => h) W0 z k ks hks (fun w' => RgS W0.drew w' z g LT M (addV false (greyOf ks hks) V)) HK.out HP.out ?_ _ (Nat.lt_of_sub_pos (by exact Nat.succ_pos _)) rfl rfl ?_
  · rintro w1 q
    exact q.fr.blk (Blk.drew HK.out) (fun e => by rcases e with e | e; exact HZK.out e; exact HGK.out e)
  rintro w1 q
  have HQ := hide q
  clear q
  simp only [Act.put, List.setIfInBounds_toArray, List.set_cons_zero, List.set_cons_succ]
  go_wp2
  go_returns
  obtain ⟨⟨g', q1, q2⟩, q3⟩ := HQ.out
  exact ⟨rfl, ⟨g', q1, q2.imp_right (fun e => Nat.le_trans HB0.out.size e)⟩, (Frm.of_below HB0.out).trans (Frm.undrew q3) (fun _ _ e => e)⟩
theorem llen_any (h : RgAt w z g LT M V) : Calls Tryz.prog 17 #[.pointer (some ⟨z, 0, none⟩)] w fun e w' => e = .returned (.int .i64 (V.length : Int)) ∧ w' = w := by
  have HN := hide (lnone_no h)
  obtain ⟨S, b, hz, _, _, _⟩ := h.ex
  obtain ⟨d0, d1, d2, d3⟩ := cells3 hz
  have hzl := hz.lt
  generalize V.length = n at *
  clear h hz
  go_enter Tryz.func17, Tryz.ntmps17
  go_wp2_with (go_at_call 44; (with_reducible refine HN.out.mono ?_); rintro e w' ⟨rfl, hw⟩; rw [hw]; clear hw)
  go_ret
  exact ⟨rfl, rfl⟩
/-- What stands at an end. -/
def endV (bot : Bool) (V : List EL) : Option EL := if bot then V.head? else V.getLast?
/-- A reading of an end. -/
def LookC (w : World) (o : Option EL) (e : Ending) (w' : World) : Prop := AtC w (o.getD elZ) o.isSome e w'
theorem look_any (h : RgAt w z g LT M V) (hM : M ≤ 140737488355327) (bot : Bool) : Calls Tryz.prog 212 #[.pointer (some ⟨z, 0, none⟩), .bool bot] w (LookC w (endV bot V)) := by
  obtain ⟨W0, hW0⟩ : ∃ W, W = w.alloc (.cells (elA elZ) elT) := ⟨_, rfl⟩
  have hb0 : Below w.heap.size w W0 := by rw [hW0]; exact below_alloc w _
  have hk0 : BoxEl W0 w.heap.size elZ := by rw [hW0]; exact BoxEl.made w _
  have h0 := h.below hb0
  obtain ⟨k, hkk⟩ : ∃ k, k = w.heap.size := ⟨_, rfl⟩
  rw [← hkk] at hk0
  have HK := hide hk0
  have HB0 := hide hb0
  have HN := hide (lnone_no h0)
  obtain ⟨S, b, hz, hg, hR, hS⟩ := h0.ex
  have hlen := hR.len
  have hc48 : V.length ≤ 281474976710656 := by omega
  have HE := hide (end_any (w := W0.drew) hz hc48 bot)
  have HA : Hid (Calls Tryz.prog 146 #[.pointer (some ⟨z, 0, none⟩), .int .i64 (if bot then 0 else (V.length : Int) - 1)] W0.drew (LookC W0.drew (endV bot V))) := hide (by
    by_cases h0l : V.length = 0
    · obtain rfl : V = [] := List.eq_nil_of_length_eq_zero h0l
      have := at_out (w := W0.drew) hz (if bot then 0 else (([] : List EL).length : Int) - 1) (by cases bot <;> simp)
      cases bot <;> exact this
    · have hRaw : Raw W0.drew z g LT S b V.length := ⟨hz, hg, hR.pos (by omega), hlen, h0.ne, by omega⟩
      cases bot
      · have hl : V = V.dropLast ++ [V.getLast (fun e => h0l (by rw [e]; rfl))] := (List.dropLast_concat_getLast _).symm
        have hi : V.length - 1 = V.dropLast.length := by simp
        have := at_in hRaw (V.length - 1) (by omega) (V.getLast (fun e => h0l (by rw [e]; rfl))) (by
          rw [hi]
          have q := hR
          rw [hl] at q
          exact q.last)
        rw [show ((V.length - 1 : Nat) : Int) = (V.length : Int) - 1 by omega] at this
        rw [if_neg (by decide)]
        have e : endV false V = some (V.getLast (fun e => h0l (by rw [e]; rfl))) := by
          show V.getLast? = _
          exact List.getLast?_eq_some_getLast _
        rw [e]
        exact this
      · cases hV : V with
        | nil => rw [hV] at h0l; exact absurd rfl h0l
        | cons v V' =>
          rw [hV] at hR hRaw
          have := at_in hRaw 0 (by simp) v hR.first
          rw [show ((0 : Nat) : Int) = 0 from rfl] at this
          rw [if_pos rfl]
          exact this)
  generalize (if bot then 0 else (V.length : Int) - 1) = i at *
  generalize endV bot V = o at *
  have hz0 := zero_el
  clear h hk0 hb0 h0 hz hg hR hS hlen hc48
  go_enter Tryz.func212, Tryz.ntmps212
  go_upto_region 1 with fail
  rw [← hW0, ← hkk]
  have HKK := hide hkk
  clear hW0 hkk
  go_upto_region 3 with (go_at_call 44; (with_reducible refine HN.out.mono ?_); rintro e w' ⟨rfl, hw⟩; rw [hw]; clear hw)
  refine lk3_walk _ (fun _ _ _ _ _ h => h) W0 z k bot o.isSome i elZ (o.getD elZ) (fun w' => w' = W0.drew) (fun w' => Below W0.heap.size W0 w') ⟨elZ, HK.out⟩ HE.out ?_ ?_ ?_ _ (Nat.lt_of_sub_pos (by exact Nat.succ_pos _)) rfl rfl rfl ?_
  · rintro w1 rfl; exact HK.out
  · rintro w1 rfl
    exact HA.out.mono (fun e w' q => ⟨q.1, below_undrewN (n := 1) q.2⟩)
  · rintro w2 q; exact HK.out.below q
  rintro w1 rfl w2 hb2
  have hput := (HK.out.below hb2).put (o.getD elZ)
  obtain ⟨W3, hW3⟩ : ∃ W3, W3 = w2.setCells k 0 (elC (o.getD elZ)) := ⟨_, rfl⟩
  rw [← hW3] at hput ⊢
  have HP := hide hput
  have HB2 := hide (HB0.out.trans (hb2.mono HB0.out.size))
  clear hW3 hput hb2 HE HA HN
  simp only [Act.put, List.setIfInBounds_toArray, List.set_cons_zero, List.set_cons_succ]
  go_wp2
  refine ⟨rfl, _, results_cell_tmp (p := 4) (q := 5) (ty := elT) rfl _ _ ⟨k, 0, none⟩ rfl (elV (o.getD elZ)) (.bool o.isSome) rfl (loadB HP.out.1), rfl, ?_⟩
  exact HB2.out.trans (below_grownBy HP.out.2 (by rw [HKK.out]; exact Nat.le_refl _) HB2.out.size)
theorem lbottom_any (h : RgAt w z g LT M V) (hM : M ≤ 140737488355327) : Calls Tryz.prog 209 #[.pointer (some ⟨z, 0, none⟩)] w (LookC w (endV true V)) := by
  obtain ⟨W0, hW0⟩ : ∃ W, W = w.alloc (.cells (elA elZ) elT) := ⟨_, rfl⟩
  have hb0 : Below w.heap.size w W0 := by rw [hW0]; exact below_alloc w _
  have hk0 : BoxEl W0 w.heap.size elZ := by rw [hW0]; exact BoxEl.made w _
  have HL := hide (look_any (h.below hb0) hM true)
  obtain ⟨k, hkk⟩ : ∃ k, k = w.heap.size := ⟨_, rfl⟩
  rw [← hkk] at hk0
  have HK := hide hk0
  have HB0 := hide hb0
  have hz0 := zero_el
  generalize endV true V = o at *
  clear h hk0 hb0
  go_enter Tryz.func209, Tryz.ntmps209
  go_upto_region 1 with fail
  rw [← hW0, ← hkk]
  have HKK := hide hkk
  clear hW0 hkk
  go_wp2_with (first | (go_at_call 212; (with_reducible refine HL.out.mono ?_); rintro e w2 ⟨rfl, hb2⟩; have HB2 := hide hb2; have HK2 := hide (HK.out.below hb2); clear hb2) | ((with_reducible refine wpList_stB ?_ (.tmp 2) (.tmp 6) ?_ k ?_ (o.getD elZ) elZ ?_ HK2.out ?_); rfl; rfl; rfl; rfl; intro w5 hk5 hg5))
  refine ⟨rfl, _, results_cell_tmp (p := 2) (q := 3) (ty := elT) rfl _ _ ⟨k, 0, none⟩ rfl (elV (o.getD elZ)) (.bool o.isSome) rfl (loadB hk5.out), rfl, ?_⟩
  have hb := HB0.out.trans (HB2.out.mono HB0.out.size)
  exact hb.trans (below_grownBy hg5.out (by rw [HKK.out]; exact Nat.le_refl _) hb.size)
theorem ltop_any (h : RgAt w z g LT M V) (hM : M ≤ 140737488355327) : Calls Tryz.prog 211 #[.pointer (some ⟨z, 0, none⟩)] w (LookC w (endV false V)) := by
  obtain ⟨W0, hW0⟩ : ∃ W, W = w.alloc (.cells (elA elZ) elT) := ⟨_, rfl⟩
  have hb0 : Below w.heap.size w W0 := by rw [hW0]; exact below_alloc w _
  have hk0 : BoxEl W0 w.heap.size elZ := by rw [hW0]; exact BoxEl.made w _
  have HL := hide (look_any (h.below hb0) hM false)
  obtain ⟨k, hkk⟩ : ∃ k, k = w.heap.size := ⟨_, rfl⟩
  rw [← hkk] at hk0
  have HK := hide hk0
  have HB0 := hide hb0
  have hz0 := zero_el
  generalize endV false V = o at *
  clear h hk0 hb0
  go_enter Tryz.func211, Tryz.ntmps211
  go_upto_region 1 with fail
  rw [← hW0, ← hkk]
  have HKK := hide hkk
  clear hW0 hkk
  go_wp2_with (first | (go_at_call 212; (with_reducible refine HL.out.mono ?_); rintro e w2 ⟨rfl, hb2⟩; have HB2 := hide hb2; have HK2 := hide (HK.out.below hb2); clear hb2) | ((with_reducible refine wpList_stB ?_ (.tmp 2) (.tmp 6) ?_ k ?_ (o.getD elZ) elZ ?_ HK2.out ?_); rfl; rfl; rfl; rfl; intro w5 hk5 hg5))
  refine ⟨rfl, _, results_cell_tmp (p := 2) (q := 3) (ty := elT) rfl _ _ ⟨k, 0, none⟩ rfl (elV (o.getD elZ)) (.bool o.isSome) rfl (loadB hk5.out), rfl, ?_⟩
  have hb := HB0.out.trans (HB2.out.mono HB0.out.size)
  exact hb.trans (below_grownBy hg5.out (by rw [HKK.out]; exact Nat.le_refl _) hb.size)
end
end RG
end Go.Proofs.YtjdlffmiokobnaaGreatDoor
