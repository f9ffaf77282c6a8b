/- A ring of one-cell elements: push, pop. -/
import Derived.Test.YtjdlffmiokobnaaGreatDoorGR6g
namespace Go.Proofs.YtjdlffmiokobnaaGreatDoor
set_option linter.unusedVariables false
set_option linter.unusedSimpArgs false
namespace RG
open Go.RowKit
set_option maxRecDepth 100000

/-- One value more at an end. -/
def addV (bot : Bool) (v : EL) (V : List EL) : List EL := if bot then v :: V else V ++ [v]
theorem addV_len (bot : Bool) (v : EL) (V : List EL) : (addV bot v V).length = V.length + 1 := by cases bot <;> simp [addV]
/-- A ring turned by a call: where it is now; of the old blocks only its own have changed. -/
structure RgS (w w' : World) (z g : Nat) (zT : TypeId) (M : Nat) (V : List EL) : Prop where
  ex : ∃ g', RgAt w' z g' zT M V ∧ (g' = g ∨ w.heap.size ≤ g')
  fr : Frm w w' (fun k => k = z ∨ k = g)
theorem Frm.undrewN {w w' : World} {T : Nat → Prop} {n : Nat} (h : Frm (w.drewN n) w' T) : Frm w w' T := ⟨h.os, h.tape, h.output, h.size, h.block⟩
def PushC (w : World) (z g : Nat) (zT : TypeId) (M : Nat) (V : List EL) (e : Ending) (w' : World) : Prop := e = .returned (.tuple #[]) ∧ RgS w w' z g zT M V
section
variable {w : World} {z g : Nat} {zT : TypeId} {M : Nat} {V : List EL}
theorem cells3 {W : World} {n b c : Nat} (h : Blk W z (rgL g n b c) zT) : W.cell? ⟨z, 0, none⟩ = some (.slice (some ⟨g, 0, none⟩) n n) ∧ W.cell? ⟨z, 1, none⟩ = some (.int .i64 (b : Int)) ∧ W.cell? ⟨z, 2, none⟩ = some (.int .i64 (c : Int)) ∧ (∀ i, W.frozen? ⟨z, i, none⟩ = false) := by
  refine ⟨?_, ?_, ?_, h.frozen⟩
  · rw [h.cell]; rfl
  · rw [h.cell]; rfl
  · rw [h.cell]; rfl
theorem Raw.setB {W : World} {S : List EL} {b c : Nat} (h : Raw W z g zT S b c) (b' : Nat) (hb : b' < S.length) : Raw (W.setCell ⟨z, 1, none⟩ (.int .i64 (b' : Int))) z g zT S b' c :=
  ⟨h.blk.set 1 _, Blk.setOther h.row _ _ (fun e => h.ne e.symm), hb, h.le, h.ne, h.sz⟩
theorem Raw.setC {W : World} {S : List EL} {b c : Nat} (h : Raw W z g zT S b c) (c' : Nat) (hc : c' ≤ S.length) : Raw (W.setCell ⟨z, 2, none⟩ (.int .i64 (c' : Int))) z g zT S b c' :=
  ⟨h.blk.set 2 _, Blk.setOther h.row _ _ (fun e => h.ne e.symm), h.bot, hc, h.ne, h.sz⟩
theorem push_any (h : RgAt w z g zT M V) (hV : V.length ≤ M) (hB : EB * (2 * M + 1) ≤ 281474976710656) (bot : Bool) (v : EL) : Calls Tryz.prog 116 #[.pointer (some ⟨z, 0, none⟩), .bool bot, elV v] w (PushC w z g zT M (addV bot v V)) := by
  obtain ⟨W0, hW0⟩ : ∃ W, W = w.alloc (.cells (elA v) elT) := ⟨_, rfl⟩
  have hb0 : Below w.heap.size w W0 := by rw [hW0]; exact below_alloc w _
  have hk0 : BoxEl W0 w.heap.size v := by rw [hW0]; exact BoxEl.made w _
  have h0 := h.below hb0
  have hlt := h.lt
  obtain ⟨k, hkk⟩ : ∃ k, k = w.heap.size := ⟨_, rfl⟩
  rw [← hkk] at hk0 hlt
  have HK := hide hk0
  have HB0 := hide hb0
  have HZK : Hid (k ≠ z) := hide (Nat.ne_of_gt hlt.1)
  have HGK : Hid (k ≠ g) := hide (Nat.ne_of_gt hlt.2)
  clear h hk0 hb0 hlt
  obtain ⟨S, b, hz, hg, hR, hS⟩ := h0.ex
  have hne := h0.ne
  have hEB : 1 ≤ EB := by decide
  have hM48 : 2 * M + 1 ≤ 281474976710656 := Nat.le_trans (Nat.le_mul_of_pos_left _ hEB) hB
  -- behind region 1: a ring with room
  have HG : Hid (V.length = S.length → ∀ r, Calls Tryz.prog 142 #[.pointer (some ⟨z, 0, none⟩)] (W0.drewN r) (GrowC (W0.drewN r) z zT M V)) := hide (fun e r => grow_any (h0.drewN r) hV hB (fun n b' q => by
    have q1 : Blk W0 z (rgL g n b' V.length) zT := q
    unfold Blk at hz q1
    rw [hz] at q1
    have q3 : (rgL g S.length b V.length) = (rgL g n b' V.length) := by
      have := Option.some.inj q1
      injection this
    have q4 := congrArg (fun a : Array Value => a[0]?) q3
    simp [rgL] at q4
    omega))
  have hc := cells3 hz
  obtain ⟨k0, k1, k2, k3⟩ := hc
  have hzl := hz.lt
  have hlen := hR.len
  have HZ := hide hz
  have HGR := hide hg
  have HR := hide hR
  have HNE := hide hne
  obtain ⟨c, hc⟩ : ∃ c, c = V.length := ⟨_, rfl⟩
  have HC := hide hc
  rw [← hc] at k2 HG hlen HZ
  have hn48 : S.length ≤ 281474976710656 := by omega
  have hVM := hide hV
  have HS := hide hS
  clear hz hg hR hne hc hV hB hS h0 hEB
  by_cases hfull : c = S.length
  · cases bot
    · skip
      have HGG := hide (HG.out hfull)
      rw [← hfull] at k0
      clear hfull HG hlen
      go_enter Tryz.func116, Tryz.ntmps116
      go_upto_region 1 with fail
      rw [← hW0, ← hkk]
      clear hW0 hkk
      go_quiet (fail)
      go_upto_region 3 with (go_at_call 142; (with_reducible refine (HGG.out _).mono ?_); rintro e w1 ⟨rfl, g1, S1, h1, h2, h3, h4, h5, h6⟩; have K1 := hide h1; have K2 := hide h2; have K3 := hide h3; have K4 := hide h4; have K5 := hide h5; have K6 := hide h6; clear h1 h2 h3 h4 h5 h6)
      clear HGG
      refine name_world (fun W => ∃ g1 S1 b1, Raw W z g1 zT S1 b1 c ∧ Ring S1 b1 V ∧ c < S1.length ∧ S1.length ≤ 2 * M + 1 ∧ (g1 = g ∨ W0.heap.size ≤ g1) ∧ Frm W0 W (fun k => k = z ∨ k = g)) ⟨g1, S1, 0, by rw [HC.out]; exact K1.out, K2.out, by rw [HC.out]; exact K3.out, K4.out, .inr K5.out, (Frm.undrewN K6.out).wide (fun _ _ q => .inl q)⟩ ?_
      rintro W ⟨g1, S1, b1, hRaw, hRing, hroom, hS1, hg1, hFr⟩
      have HF := hide hFr
      have HG1 := hide hg1
      have HS1 := hide hS1
      have HRing := hide hRing
      clear hFr hg1 hS1 hRing k0 k1 k2 k3
      obtain ⟨d0, d1, d2, d3⟩ := cells3 hRaw.blk
      have hzW := hRaw.blk.lt
      have HRW2 := hide hRaw
      have HF2 := HF
      have HRM := hide hroom
      have hn1 := hRaw.sz
      have hc48 : c ≤ 281474976710656 := by omega
      clear hRaw hroom HF
      go_upto_region 6 with fail
      refine name_world (fun W' => Raw W' z g1 zT S1 b1 (c + 1) ∧ Frm W0 W' (fun k => k = z ∨ k = g)) ⟨by have := HRW2.out.setC (c + 1) (by have := HRM.out; omega); rw [show ((c + 1 : Nat) : Int) = (c : Int) + 1 by omega] at this; exact this, HF2.out.put _ _ _ (.inl (.inl rfl))⟩ ?_
      rintro W3 ⟨hRaw3, hF3⟩
      have hE := end_any (w := W3.drew) hRaw3.blk (Nat.le_trans hRaw3.le hRaw3.sz) false
      rw [if_neg (by decide), show ((c + 1 : Nat) : Int) - 1 = (c : Int) by omega] at hE
      have HE := hide hE
      have hST := set_in (w := W3.drew) (hRaw3.drewN 1) c (by omega) v
      have HST := hide hST
      clear hST
      have HF3 := hide hF3
      clear hE d0 d1 d2 d3 HRW2 HF2 hRaw3 hF3
      have HBX := hide (HF3.out.blk (g := k) HK.out (fun q => by rcases q with q | q; exact HZK.out q; exact HGK.out q))
      have HKG1 : Hid (k ≠ g1) := hide (fun q => by
        rcases HG1.out with e | e
        · exact HGK.out (q.trans e)
        · have := HK.out.lt; omega)
      refine ps6_walk _ (fun _ _ _ _ _ h => h) W3 z k (c : Int) false v (fun w' => w' = W3.drew) (fun w' => Raw w' z g1 zT (S1.set (spot S1.length b1 c) v) b1 (c + 1) ∧ Frm W3 w' (fun q => q = g1)) HBX.out HE.out ?_ ?_ ?_ _ (Nat.lt_of_sub_pos (by exact Nat.succ_pos _)) rfl rfl rfl ?_
      · rintro w' rfl; exact HBX.out
      · rintro w' rfl
        exact HST.out.mono (fun e w4 q => ⟨q.1, q.2.1, Frm.undrew q.2.2⟩)
      · rintro w' q
        exact q.2.blk HBX.out HKG1.out
      rintro w5 rfl w4 ⟨h1, h2⟩
      have H1 := hide h1
      have H2 := hide h2
      clear h1 h2 HE HST
      simp only [Act.put, List.setIfInBounds_toArray, List.set_cons_zero, List.set_cons_succ]
      go_wp2
      go_returns
      have hcV := HC.out
      have hb := H1.out.blk
      rw [List.length_set] at hb
      refine ⟨rfl, ⟨g1, ⟨⟨_, b1, ?_, H1.out.row, ?_, by rw [List.length_set]; exact HS1.out⟩, H1.out.ne⟩, HG1.out.imp_right (Nat.le_trans HB0.out.size)⟩, ?_⟩
      · rw [List.length_set, addV_len, ← hcV]; exact hb
      · have hr := HRing.out.pushT (by rw [← hcV]; exact HRM.out) v
        rw [← hcV] at hr
        exact hr
      · have f1 : Frm W0 w4 (fun k => k = z ∨ k = g) := HF3.out.trans H2.out (fun i hi q => by
          rcases HG1.out with e | e
          · exact .inr (q.trans e)
          · omega)
        exact (Frm.of_below HB0.out).trans f1 (fun _ _ q => q)
    · skip
      have HGG := hide (HG.out hfull)
      rw [← hfull] at k0
      clear hfull HG hlen
      go_enter Tryz.func116, Tryz.ntmps116
      go_upto_region 1 with fail
      rw [← hW0, ← hkk]
      clear hW0 hkk
      go_quiet (fail)
      go_upto_region 3 with (go_at_call 142; (with_reducible refine (HGG.out _).mono ?_); rintro e w1 ⟨rfl, g1, S1, h1, h2, h3, h4, h5, h6⟩; have K1 := hide h1; have K2 := hide h2; have K3 := hide h3; have K4 := hide h4; have K5 := hide h5; have K6 := hide h6; clear h1 h2 h3 h4 h5 h6)
      clear HGG
      refine name_world (fun W => ∃ g1 S1 b1, Raw W z g1 zT S1 b1 c ∧ Ring S1 b1 V ∧ c < S1.length ∧ S1.length ≤ 2 * M + 1 ∧ (g1 = g ∨ W0.heap.size ≤ g1) ∧ Frm W0 W (fun k => k = z ∨ k = g)) ⟨g1, S1, 0, by rw [HC.out]; exact K1.out, K2.out, by rw [HC.out]; exact K3.out, K4.out, .inr K5.out, (Frm.undrewN K6.out).wide (fun _ _ q => .inl q)⟩ ?_
      rintro W ⟨g1, S1, b1, hRaw, hRing, hroom, hS1, hg1, hFr⟩
      have HF := hide hFr
      have HG1 := hide hg1
      have HS1 := hide hS1
      have HRing := hide hRing
      clear hFr hg1 hS1 hRing k0 k1 k2 k3
      obtain ⟨d0, d1, d2, d3⟩ := cells3 hRaw.blk
      have hzW := hRaw.blk.lt
      have HRW := hide hRaw
      have HSL := hide (slot_any hRaw.blk hRaw.bot hRaw.sz (S1.length - 1) (by omega))
      have hn1 := hRaw.sz
      have hpos : 0 < S1.length := by omega
      have hspl := hide (spot_lt hRaw.bot (k := S1.length - 1) (by omega))
      have hcast : ((S1.length - 1 : Nat) : Int) = (S1.length : Int) - 1 := by omega
      rw [hcast] at HSL
      have HRM := hide hroom
      have hc48 : c ≤ 281474976710656 := by omega
      obtain ⟨b2, hb2⟩ : ∃ b2, b2 = spot S1.length b1 (S1.length - 1) := ⟨_, rfl⟩
      rw [← hb2] at HSL hspl
      have HB2 := hide hb2
      generalize hnn : S1.length = n1 at *
      have HNN := hide hnn
      clear hRaw hroom hcast hb2 hnn
      go_upto_region 5 with (go_at_call 143; (with_reducible refine HSL.out.mono ?_); rintro e w' ⟨rfl, q, hw⟩; rw [hw]; clear hw)
      refine name_world (fun W' => Raw W' z g1 zT S1 b2 c ∧ Frm W0 W' (fun k => k = z ∨ k = g)) ⟨(HRW.out.drewN _).setB b2 (by rw [HNN.out]; exact hspl.out), (HF.out.drewN _).put _ _ _ (.inl (.inl rfl))⟩ ?_
      rintro W2 ⟨hRaw2, hF2⟩
      clear d0 d1 d2 d3 HRW HSL HF
      obtain ⟨d0, d1, d2, d3⟩ := cells3 hRaw2.blk
      have hzW2 := hRaw2.blk.lt
      have HRW2 := hide hRaw2
      have HF2 := hide hF2
      clear hRaw2 hF2
      go_upto_region 6 with fail
      refine name_world (fun W' => Raw W' z g1 zT S1 b2 (c + 1) ∧ Frm W0 W' (fun k => k = z ∨ k = g)) ⟨by have := HRW2.out.setC (c + 1) (by have := HRM.out; rw [← HNN.out] at this; omega); rw [show ((c + 1 : Nat) : Int) = (c : Int) + 1 by omega] at this; exact this, HF2.out.put _ _ _ (.inl (.inl rfl))⟩ ?_
      rintro W3 ⟨hRaw3, hF3⟩
      have hE := end_any (w := W3.drew) hRaw3.blk (Nat.le_trans hRaw3.le hRaw3.sz) true
      rw [if_pos rfl] at hE
      have HE := hide hE
      have hRaw3b := hide hRaw3.bot
      have hST := set_in (w := W3.drew) (hRaw3.drewN 1) 0 (by omega) v
      rw [show ((0 : Nat) : Int) = 0 from rfl] at hST
      have HST := hide hST
      clear hST
      have HF3 := hide hF3
      clear hE d0 d1 d2 d3 HRW2 HF2 hRaw3 hF3
      have HBX := hide (HF3.out.blk (g := k) HK.out (fun q => by rcases q with q | q; exact HZK.out q; exact HGK.out q))
      have HKG1 : Hid (k ≠ g1) := hide (fun q => by
        rcases HG1.out with e | e
        · exact HGK.out (q.trans e)
        · have := HK.out.lt; omega)
      refine ps6_walk _ (fun _ _ _ _ _ h => h) W3 z k 0 true v (fun w' => w' = W3.drew) (fun w' => Raw w' z g1 zT (S1.set (spot S1.length b2 0) v) b2 (c + 1) ∧ Frm W3 w' (fun q => q = g1)) HBX.out HE.out ?_ ?_ ?_ _ (Nat.lt_of_sub_pos (by exact Nat.succ_pos _)) rfl rfl rfl ?_
      · rintro w' rfl; exact HBX.out
      · rintro w' rfl
        exact HST.out.mono (fun e w4 q => ⟨q.1, q.2.1, Frm.undrew q.2.2⟩)
      · rintro w' q
        exact q.2.blk HBX.out HKG1.out
      rintro w5 rfl w4 ⟨h1, h2⟩
      have H1 := hide h1
      have H2 := hide h2
      clear h1 h2 HE HST
      simp only [Act.put, List.setIfInBounds_toArray, List.set_cons_zero, List.set_cons_succ]
      go_wp2
      go_returns
      have hcV := HC.out
      have hb := H1.out.blk
      rw [List.length_set] at hb
      refine ⟨rfl, ⟨g1, ⟨⟨_, b2, ?_, H1.out.row, ?_, by rw [List.length_set, HNN.out]; exact HS1.out⟩, H1.out.ne⟩, HG1.out.imp_right (Nat.le_trans HB0.out.size)⟩, ?_⟩
      · rw [List.length_set, addV_len, ← hcV]; exact hb
      · have hr := HRing.out.pushB (by rw [← hcV]; have := HRM.out; rw [← HNN.out] at this; omega) v
        rw [show addV true v V = v :: V from rfl, spot_zero hRaw3b.out]
        rw [HNN.out, ← HB2.out] at hr
        exact hr
      · have f1 : Frm W0 w4 (fun k => k = z ∨ k = g) := HF3.out.trans H2.out (fun i hi q => by
          rcases HG1.out with e | e
          · exact .inr (q.trans e)
          · omega)
        exact (Frm.of_below HB0.out).trans f1 (fun _ _ q => q)
  · cases bot
    · skip
      have HROOM := hide (show c < S.length by omega)
      have hfi : ¬ (c : Int) = (S.length : Int) := by omega
      clear hfull HG
      go_enter Tryz.func116, Tryz.ntmps116
      go_upto_region 1 with fail
      rw [← hW0, ← hkk]
      clear hW0 hkk
      go_quiet (fail)
      go_upto_region 3 with fail
      refine name_world (fun W => ∃ g1 S1 b1, Raw W z g1 zT S1 b1 c ∧ Ring S1 b1 V ∧ c < S1.length ∧ S1.length ≤ 2 * M + 1 ∧ (g1 = g ∨ W0.heap.size ≤ g1) ∧ Frm W0 W (fun k => k = z ∨ k = g)) ⟨g, S, b, Raw.drewN ⟨HZ.out, HGR.out, HR.out.pos (by have := HROOM.out; omega), Nat.le_of_lt HROOM.out, HNE.out, hn48⟩ _, HR.out, HROOM.out, HS.out, .inl rfl, (Frm.refl W0 _).drewN _⟩ ?_
      rintro W ⟨g1, S1, b1, hRaw, hRing, hroom, hS1, hg1, hFr⟩
      have HF := hide hFr
      have HG1 := hide hg1
      have HS1 := hide hS1
      have HRing := hide hRing
      clear hFr hg1 hS1 hRing k0 k1 k2 k3
      obtain ⟨d0, d1, d2, d3⟩ := cells3 hRaw.blk
      have hzW := hRaw.blk.lt
      have HRW2 := hide hRaw
      have HF2 := HF
      have HRM := hide hroom
      have hn1 := hRaw.sz
      have hc48 : c ≤ 281474976710656 := by omega
      clear hRaw hroom HF
      go_upto_region 6 with fail
      refine name_world (fun W' => Raw W' z g1 zT S1 b1 (c + 1) ∧ Frm W0 W' (fun k => k = z ∨ k = g)) ⟨by have := HRW2.out.setC (c + 1) (by have := HRM.out; omega); rw [show ((c + 1 : Nat) : Int) = (c : Int) + 1 by omega] at this; exact this, HF2.out.put _ _ _ (.inl (.inl rfl))⟩ ?_
      rintro W3 ⟨hRaw3, hF3⟩
      have hE := end_any (w := W3.drew) hRaw3.blk (Nat.le_trans hRaw3.le hRaw3.sz) false
      rw [if_neg (by decide), show ((c + 1 : Nat) : Int) - 1 = (c : Int) by omega] at hE
      have HE := hide hE
      have hST := set_in (w := W3.drew) (hRaw3.drewN 1) c (by omega) v
      have HST := hide hST
      clear hST
      have HF3 := hide hF3
      clear hE d0 d1 d2 d3 HRW2 HF2 hRaw3 hF3
      have HBX := hide (HF3.out.blk (g := k) HK.out (fun q => by rcases q with q | q; exact HZK.out q; exact HGK.out q))
      have HKG1 : Hid (k ≠ g1) := hide (fun q => by
        rcases HG1.out with e | e
        · exact HGK.out (q.trans e)
        · have := HK.out.lt; omega)
      refine ps6_walk _ (fun _ _ _ _ _ h => h) W3 z k (c : Int) false v (fun w' => w' = W3.drew) (fun w' => Raw w' z g1 zT (S1.set (spot S1.length b1 c) v) b1 (c + 1) ∧ Frm W3 w' (fun q => q = g1)) HBX.out HE.out ?_ ?_ ?_ _ (Nat.lt_of_sub_pos (by exact Nat.succ_pos _)) rfl rfl rfl ?_
      · rintro w' rfl; exact HBX.out
      · rintro w' rfl
        exact HST.out.mono (fun e w4 q => ⟨q.1, q.2.1, Frm.undrew q.2.2⟩)
      · rintro w' q
        exact q.2.blk HBX.out HKG1.out
      rintro w5 rfl w4 ⟨h1, h2⟩
      have H1 := hide h1
      have H2 := hide h2
      clear h1 h2 HE HST
      simp only [Act.put, List.setIfInBounds_toArray, List.set_cons_zero, List.set_cons_succ]
      go_wp2
      go_returns
      have hcV := HC.out
      have hb := H1.out.blk
      rw [List.length_set] at hb
      refine ⟨rfl, ⟨g1, ⟨⟨_, b1, ?_, H1.out.row, ?_, by rw [List.length_set]; exact HS1.out⟩, H1.out.ne⟩, HG1.out.imp_right (Nat.le_trans HB0.out.size)⟩, ?_⟩
      · rw [List.length_set, addV_len, ← hcV]; exact hb
      · have hr := HRing.out.pushT (by rw [← hcV]; exact HRM.out) v
        rw [← hcV] at hr
        exact hr
      · have f1 : Frm W0 w4 (fun k => k = z ∨ k = g) := HF3.out.trans H2.out (fun i hi q => by
          rcases HG1.out with e | e
          · exact .inr (q.trans e)
          · omega)
        exact (Frm.of_below HB0.out).trans f1 (fun _ _ q => q)
    · skip
      have HROOM := hide (show c < S.length by omega)
      have hfi : ¬ (c : Int) = (S.length : Int) := by omega
      clear hfull HG
      go_enter Tryz.func116, Tryz.ntmps116
      go_upto_region 1 with fail
      rw [← hW0, ← hkk]
      clear hW0 hkk
      go_quiet (fail)
      go_upto_region 3 with fail
      refine name_world (fun W => ∃ g1 S1 b1, Raw W z g1 zT S1 b1 c ∧ Ring S1 b1 V ∧ c < S1.length ∧ S1.length ≤ 2 * M + 1 ∧ (g1 = g ∨ W0.heap.size ≤ g1) ∧ Frm W0 W (fun k => k = z ∨ k = g)) ⟨g, S, b, Raw.drewN ⟨HZ.out, HGR.out, HR.out.pos (by have := HROOM.out; omega), Nat.le_of_lt HROOM.out, HNE.out, hn48⟩ _, HR.out, HROOM.out, HS.out, .inl rfl, (Frm.refl W0 _).drewN _⟩ ?_
      rintro W ⟨g1, S1, b1, hRaw, hRing, hroom, hS1, hg1, hFr⟩
      have HF := hide hFr
      have HG1 := hide hg1
      have HS1 := hide hS1
      have HRing := hide hRing
      clear hFr hg1 hS1 hRing k0 k1 k2 k3
      obtain ⟨d0, d1, d2, d3⟩ := cells3 hRaw.blk
      have hzW := hRaw.blk.lt
      have HRW := hide hRaw
      have HSL := hide (slot_any hRaw.blk hRaw.bot hRaw.sz (S1.length - 1) (by omega))
      have hn1 := hRaw.sz
      have hpos : 0 < S1.length := by omega
      have hspl := hide (spot_lt hRaw.bot (k := S1.length - 1) (by omega))
      have hcast : ((S1.length - 1 : Nat) : Int) = (S1.length : Int) - 1 := by omega
      rw [hcast] at HSL
      have HRM := hide hroom
      have hc48 : c ≤ 281474976710656 := by omega
      obtain ⟨b2, hb2⟩ : ∃ b2, b2 = spot S1.length b1 (S1.length - 1) := ⟨_, rfl⟩
      rw [← hb2] at HSL hspl
      have HB2 := hide hb2
      generalize hnn : S1.length = n1 at *
      have HNN := hide hnn
      clear hRaw hroom hcast hb2 hnn
      go_upto_region 5 with (go_at_call 143; (with_reducible refine HSL.out.mono ?_); rintro e w' ⟨rfl, q, hw⟩; rw [hw]; clear hw)
      refine name_world (fun W' => Raw W' z g1 zT S1 b2 c ∧ Frm W0 W' (fun k => k = z ∨ k = g)) ⟨(HRW.out.drewN _).setB b2 (by rw [HNN.out]; exact hspl.out), (HF.out.drewN _).put _ _ _ (.inl (.inl rfl))⟩ ?_
      rintro W2 ⟨hRaw2, hF2⟩
      clear d0 d1 d2 d3 HRW HSL HF
      obtain ⟨d0, d1, d2, d3⟩ := cells3 hRaw2.blk
      have hzW2 := hRaw2.blk.lt
      have HRW2 := hide hRaw2
      have HF2 := hide hF2
      clear hRaw2 hF2
      go_upto_region 6 with fail
      refine name_world (fun W' => Raw W' z g1 zT S1 b2 (c + 1) ∧ Frm W0 W' (fun k => k = z ∨ k = g)) ⟨by have := HRW2.out.setC (c + 1) (by have := HRM.out; rw [← HNN.out] at this; omega); rw [show ((c + 1 : Nat) : Int) = (c : Int) + 1 by omega] at this; exact this, HF2.out.put _ _ _ (.inl (.inl rfl))⟩ ?_
      rintro W3 ⟨hRaw3, hF3⟩
      have hE := end_any (w := W3.drew) hRaw3.blk (Nat.le_trans hRaw3.le hRaw3.sz) true
      rw [if_pos rfl] at hE
      have HE := hide hE
      have hRaw3b := hide hRaw3.bot
      have hST := set_in (w := W3.drew) (hRaw3.drewN 1) 0 (by omega) v
      rw [show ((0 : Nat) : Int) = 0 from rfl] at hST
      have HST := hide hST
      clear hST
      have HF3 := hide hF3
      clear hE d0 d1 d2 d3 HRW2 HF2 hRaw3 hF3
      have HBX := hide (HF3.out.blk (g := k) HK.out (fun q => by rcases q with q | q; exact HZK.out q; exact HGK.out q))
      have HKG1 : Hid (k ≠ g1) := hide (fun q => by
        rcases HG1.out with e | e
        · exact HGK.out (q.trans e)
        · have := HK.out.lt; omega)
      refine ps6_walk _ (fun _ _ _ _ _ h => h) W3 z k 0 true v (fun w' => w' = W3.drew) (fun w' => Raw w' z g1 zT (S1.set (spot S1.length b2 0) v) b2 (c + 1) ∧ Frm W3 w' (fun q => q = g1)) HBX.out HE.out ?_ ?_ ?_ _ (Nat.lt_of_sub_pos (by exact Nat.succ_pos _)) rfl rfl rfl ?_
      · rintro w' rfl; exact HBX.out
      · rintro w' rfl
        exact HST.out.mono (fun e w4 q => ⟨q.1, q.2.1, Frm.undrew q.2.2⟩)
      · rintro w' q
        exact q.2.blk HBX.out HKG1.out
      rintro w5 rfl w4 ⟨h1, h2⟩
      have H1 := hide h1
      have H2 := hide h2
      clear h1 h2 HE HST
      simp only [Act.put, List.setIfInBounds_toArray, List.set_cons_zero, List.set_cons_succ]
      go_wp2
      go_returns
      have hcV := HC.out
      have hb := H1.out.blk
      rw [List.length_set] at hb
      refine ⟨rfl, ⟨g1, ⟨⟨_, b2, ?_, H1.out.row, ?_, by rw [List.length_set, HNN.out]; exact HS1.out⟩, H1.out.ne⟩, HG1.out.imp_right (Nat.le_trans HB0.out.size)⟩, ?_⟩
      · rw [List.length_set, addV_len, ← hcV]; exact hb
      · have hr := HRing.out.pushB (by rw [← hcV]; have := HRM.out; rw [← HNN.out] at this; omega) v
        rw [show addV true v V = v :: V from rfl, spot_zero hRaw3b.out]
        rw [HNN.out, ← HB2.out] at hr
        exact hr
      · have f1 : Frm W0 w4 (fun k => k = z ∨ k = g) := HF3.out.trans H2.out (fun i hi q => by
          rcases HG1.out with e | e
          · exact .inr (q.trans e)
          · omega)
        exact (Frm.of_below HB0.out).trans f1 (fun _ _ q => q)
end
end RG
end Go.Proofs.YtjdlffmiokobnaaGreatDoor
