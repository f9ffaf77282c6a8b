/- KeySets: changes, walked. -/
import Derived.Test.YtnloglecfbhpcaaKL4
namespace Go.Proofs.Ytnloglecfbhpcaa
set_option linter.unusedVariables false
set_option linter.unusedSimpArgs false
open Go.RowKit Go.Sort Go.Shelf
set_option maxRecDepth 100000
set_option maxHeartbeats 16000000

theorem own_block_lt {W : World} {B g n cap : Nat} {C : List (List UInt8)} (h : OwnQ W B (.slice (some ⟨g, 0, none⟩) n cap) C) : g < W.heap.size := by
  obtain ⟨h0, ⟨e, h2⟩ | ⟨g', cap', cur, e, hB, hh, hx⟩⟩ := h
  · cases e
  · cases e
    exact (Array.getElem?_eq_some_iff.1 hh).1
section
variable {TK : List (List UInt8)} {w0 W w2 w3 w4 : World} {N wz : Nat} {E : Nat → EL} {kv : Value} {KS : List (Value × Value)}
theorem map_ne {W : World} {b z : Nat} {es : Array MapEntry} {clock : Nat} {cs : Array Value} {t : TypeId} (h : W.heap[b]? = some (.map es clock)) (k : Blk W z cs t) : z ≠ b := fun e => by
  subst e
  exact map_noBlk h k
theorem LwS.made (h : LwS TK w0 W N wz E kv KS) {R' U : List (List UInt8)} (hri : Rising R') (hsub : ∀ x ∈ R', x ∈ TK) {zp b zn : Nat} (hb2 : Below W.heap.size W w2) (hbz : W.heap.size ≤ b) (hS : SetAt w2 zp b U) (hnd : U.Nodup) (hm : ∀ x, x ∈ U ↔ x ∈ R') (hz : W.heap.size ≤ zn) (hr : RsB w3 zn R') (hb3 : Below w2.heap.size w2 w3) {i : Nat} (hi : i < 3) (hg : w3.grownBy w4 (some wz))
    (hw : Blk w4 wz ((((wA E kv).setIfInBounds i (.pointer (some ⟨zp, 0, none⟩))).setIfInBounds (3 + i) (.pointer (some ⟨zn, 0, none⟩))).setIfInBounds (6 + i) (.bool false)) WT) : LwS TK w0 w4 N wz (up E i ⟨some ⟨zp, 0, none⟩, b, zn, R'⟩) kv KS := by
  rw [wA_put E kv ⟨some ⟨zp, 0, none⟩, b, zn, R'⟩ hi rfl] at hw
  exact h.laid (hb2.trans (hb3.mono hb2.size)) ⟨.inr ⟨zp, U, rfl, hS.below hb3, hnd, hm⟩, hr, hri, hsub⟩ hz (fun _ => hbz) hi hg hw
theorem LwS.mid (h : LwS TK w0 W N wz E kv KS) {j : Nat} (hj : j < 3) (hq : (E j).q ≠ none) (g2 : W.grownBy w2 (some (E j).b)) : (∀ k cs t, Blk W k cs t → Blk w2 k cs t) ∧ RsB w2 (E j).z (E j).R := by
  have hel := h.el j hj
  rcases hel.set with ⟨h1, _⟩ | ⟨zp, S, h1, h2, h3⟩
  · exact absurd h1 hq
  · obtain ⟨es, clock, hm⟩ := h2.map
    obtain ⟨ao, n, c, hr⟩ := hel.rs
    exact ⟨fun k cs t hb => hb.grown g2 (fun e => map_ne hm hb (Option.some.inj e)), hel.rs.grown g2 (map_ne hm hr.blk) (map_noU hm)⟩
theorem LwS.two (h : LwS TK w0 W N wz E kv KS) {j : Nat} (hj : j < 3) {zp : Nat} {S' R' : List (List UInt8)} (hq : (E j).q = some ⟨zp, 0, none⟩) (hs2 : SetAt w2 zp (E j).b S') (g2 : W.grownBy w2 (some (E j).b)) (hr3 : RsB w3 (E j).z R') (g3 : w2.grownBy w3 (some (E j).z)) (hnd : S'.Nodup) (hm : ∀ x, x ∈ S' ↔ x ∈ R') (hri : Rising R') (hsub : ∀ x ∈ R', x ∈ TK) :
    LwS TK w0 w3 N wz (up E j ⟨(E j).q, (E j).b, (E j).z, R'⟩) kv KS ∧ (∀ k cs t, Blk W k cs t → t ≠ RST → Blk w3 k cs t) := by
  have hqn : (E j).q ≠ none := by rw [hq]; exact fun e => by cases e
  obtain ⟨m1, m2⟩ := h.mid hj hqn g2
  obtain ⟨ao, n, c, hr⟩ := m2
  have hT : Tch (TE (E j)) W w3 := (Tch.grown g2 (.inl ⟨hqn, rfl⟩)).trans (Tch.grown g3 (.inr rfl))
  obtain ⟨es, clock, hmm⟩ := hs2.map
  refine ⟨h.change hj hT ⟨.inr ⟨zp, S', hq, hs2.tch (g3.block _ hs2.blk.lt (fun e => ?_)) (g3.block _ (Array.getElem?_eq_some_iff.1 hmm).1 (fun e => ?_)), hnd, hm⟩, hr3, hri, hsub⟩, fun k cs t hb ht => (m1 k cs t hb).grown g3 (fun e => ?_)⟩
  · exact blk_ne hs2.blk hr.blk (by decide) (Option.some.inj e)
  · exact map_ne hmm hr.blk (Option.some.inj e).symm
  · exact blk_ne (m1 k cs t hb) hr.blk ht (Option.some.inj e)
theorem LwS.nilDel (h : LwS TK w0 W N wz E kv KS) {j : Nat} (hj : j < 3) (hq : (E j).q = none) (hb : Below W.heap.size W w2) {R' : List (List UInt8)} (hr3 : RsB w3 (E j).z R') (g3 : w2.grownBy w3 (some (E j).z)) (hR : R' = []) :
    LwS TK w0 w3 N wz (up E j ⟨(E j).q, (E j).b, (E j).z, R'⟩) kv KS ∧ (∀ k cs t, Blk W k cs t → t ≠ RST → Blk w3 k cs t) := by
  have h2 := h.below hb
  obtain ⟨ao, n, c, hr⟩ := (h2.el j hj).rs
  have hT : Tch (TE (E j)) w2 w3 := Tch.grown g3 (.inr rfl)
  refine ⟨h2.change hj hT ⟨.inl ⟨hq, hR⟩, hr3, by rw [hR]; exact rising_nil, by rw [hR]; exact fun x hx => by cases hx⟩, fun k cs t hb2 ht => (hb2.below hb hb2.lt).grown g3 (fun e => ?_)⟩
  exact blk_ne (hb2.below hb hb2.lt) hr.blk ht (Option.some.inj e)
end
theorem changes_any {TK : List (List UInt8)} {w0 W : World} {N wz : Nat} {E : Nat → EL} {kv : Value} {KS : List (Value × Value)} (s : SK) (h : LwS TK w0 W N wz E kv KS) (hs : SkOk TK w0 N s) (htk : TK.length ≤ 2199023255488) :
    Calls Try.prog 9 #[.pointer (some ⟨wz, 0, none⟩), skV s] W fun e w' => e = .returned (.bool true) ∧ ∃ E', LwS TK w0 w' N wz E' kv KS := by
  have HL0 := hide h
  have HSK := hide hs
  have H32 := hide hs.k32
  have HTK := hide htk
  clear h hs htk
  go_enter Try.func9, Try.ntmps9
  go_upto_region 1 with fail
  refine name_world (fun D => Below W.heap.size W D ∧ SKB D W.heap.size s) ⟨below_alloc W _, Blk.made W _ _⟩ ?_
  rintro W1 ⟨hB, hS⟩
  obtain ⟨kb, hkb⟩ : ∃ kb, kb = W.heap.size := ⟨_, rfl⟩
  rw [← hkb] at hS ⊢
  obtain ⟨on, hon⟩ : ∃ on, on = s.on := ⟨_, rfl⟩
  obtain ⟨wi, hwi⟩ : ∃ wi, wi = s.wi := ⟨_, rfl⟩
  obtain ⟨W2, hW2⟩ : ∃ W2, W2 = W1.drew := ⟨_, rfl⟩
  have hb2 : Below W1.heap.size W1 W2 := by rw [hW2]; exact (Below.refl _ _).drew
  have HL2 := hide ((HL0.out.below hB).below hb2)
  have hS2 : SKB W2 kb s := Blk.below hS hb2 (Blk.lt hS)
  have HS2 := hide hS2
  have hcc : W2.cell? ⟨kb, 1, none⟩ = some (.int .i64 on) ∧ W2.cell? ⟨kb, 2, none⟩ = some (.int .i64 wi) := by rw [hon, hwi]; exact ⟨sk_on hS2, sk_wi hS2⟩
  rw [hW2] at hcc
  refine wp_norm (ci_walk _ (fun _ _ _ _ _ h => h) W1 kb on wi hcc _ ?_ ?_ ?_)
  any_goals rfl
  · exact Nat.lt_of_sub_pos (by exact Nat.succ_pos _)
  simp only [Act.put, List.setIfInBounds_toArray, List.set_cons_zero, List.set_cons_succ, Exit.then]
  rw [← hW2]
  clear hcc hb2 hW2 hB hS hS2 hkb hon HL0
  obtain ⟨j, hj⟩ : ∃ j, j = thN on := ⟨_, rfl⟩
  obtain ⟨jj, hjj⟩ : ∃ jj, jj = thN wi := ⟨_, rfl⟩
  rw [← hj, ← hjj]
  have HJ : Hid (j < 3) := hide (by rw [hj]; exact thN_lt on)
  have HJJ : Hid (jj < 3) := hide (by rw [hjj]; exact thN_lt wi)
  clear hj hjj hwi
  go_upto_region 2 with fail
  obtain ⟨D, hD⟩ : ∃ D, D = W2.drew := ⟨_, rfl⟩
  have hbd : Below W2.heap.size W2 D := by rw [hD]; exact (Below.refl _ _).drew
  have HL := hide (HL2.out.below hbd)
  have HS : Hid (SKB D kb s) := hide (Blk.below HS2.out hbd (Blk.lt HS2.out))
  obtain ⟨q, hq⟩ : ∃ q, q = (E j).q := ⟨_, rfl⟩
  obtain ⟨z, hz⟩ : ∃ z, z = (E j).z := ⟨_, rfl⟩
  have hcc : D.cell? ⟨wz, j, none⟩ = some (.pointer q) ∧ D.cell? ⟨wz, 3 + j, none⟩ = some (.pointer (some ⟨z, 0, none⟩)) := by rw [hq, hz]; exact ⟨HL.out.cP HJ.out, HL.out.cR HJ.out⟩
  rw [hD] at hcc
  have HQ := hide hq
  have HZ := hide hz
  refine wp_norm (cr_walk _ (fun _ _ _ _ _ h => h) W2 wz j z HJ.out q hcc _ ?_ ?_ ?_ ?_)
  any_goals rfl
  · exact Nat.lt_of_sub_pos (by exact Nat.succ_pos _)
  simp only [Act.put, List.setIfInBounds_toArray, List.set_cons_zero, List.set_cons_succ, Exit.then]
  rw [← hD]
  clear hcc hD hbd HL2 HS2 hq hz
  obtain ⟨kd, hkd⟩ : ∃ kd, kd = s.kd := ⟨_, rfl⟩
  have ck : D.cell? ⟨kb, 0, none⟩ = some (.int .i64 kd) := by rw [hkd]; exact sk_kd HS.out
  clear hkd
  have HSd : Hid (SKB D.drew kb s) := hide (Blk.below HS.out ((Below.refl D.heap.size D).drew) (Blk.lt HS.out))
  have HLd := hide (HL.out.below ((Below.refl D.heap.size D).drew))
  by_cases h1 : kd = 1
  · subst h1
    obtain ⟨ao, hao⟩ : ∃ ao, ao = s.ao := ⟨_, rfl⟩
    obtain ⟨n, hn⟩ : ∃ n, n = s.kn := ⟨_, rfl⟩
    obtain ⟨c, hc⟩ : ∃ c, c = s.kc := ⟨_, rfl⟩
    obtain ⟨ks, hks⟩ : ∃ ks, ks = s.ks := ⟨_, rfl⟩
    have HC : Hid (∀ W3, SKB W3 kb s → W3.cell? ⟨kb, 35, none⟩ = some (.slice ao n c)) := hide (fun W3 h3 => by rw [hao, hn, hc]; exact sk_ks h3 H32.out)
    have HRow : Hid (∀ W3, Below D.heap.size D W3 → KRow W3 ao ks) := hide (fun W3 h3 => by rw [hao, hks]; exact HSK.out.row W3 (HL.out.bel.trans (h3.mono HL.out.sz)))
    have HN : Hid (n = ks.length) := hide (by rw [hn, hks]; exact HSK.out.kn)
    have HNl : Hid (n ≤ 2097152) := hide (by rw [hn]; exact HSK.out.kl)
    have HSub : Hid (∀ x ∈ ks, x ∈ TK) := hide (by rw [hks]; exact HSK.out.inS)
    have HC1 := hide (keys_any D ao n c ks HN.out (HRow.out D (Below.refl _ _)) (by have := HNl.out; omega))
    have c35 := HC.out D HS.out
    clear hao hn hc hks
    go_upto_region 6 with (go_at_call 25; (with_reducible refine HC1.out.mono ?_); rintro e w1 ⟨g, rfl, hg1, ho1, hb1⟩; have HG1 := hide hg1; have HO1 := hide ho1; have HB1 := hide hb1; clear hg1 ho1 hb1)
    have H32s : Hid (∀ x ∈ ks, x.length = 32) := hide (HRow.out D (Below.refl _ _)).len
    have HC2 := hide (newSet_any w1 (some ⟨g, 0, none⟩) n (n + 9) ks HN.out (krow_mark HO1.out H32s.out) (by have := HNl.out; omega))
    have HGl : Hid (g < w1.heap.size) := hide (own_block_lt HO1.out)
    clear HC1 ck
    go_upto_region 7 with (go_at_call 6; (with_reducible refine HC2.out.mono ?_); rintro e w2 ⟨zp, b, rfl, hz2, hbb2, hs2, hb2⟩; have HZ2 := hide hz2; have HBb2 := hide hbb2; have HS2 := hide hs2; have HB2 := hide (HB1.out.trans (hb2.mono HB1.out.size)); have HO2 := hide (HO1.out.below hb2); clear hz2 hbb2 hs2 hb2)
    have HC3 := hide (untouched_any D w2 D.heap.size g n (n + 9) ao c ks HN.out rfl (by have := HNl.out; omega) HB2.out HB2.out.size HG1.out H32s.out HRow.out HO2.out)
    have HSB2 : Hid (SKB w2 kb s) := hide (Blk.below HS.out HB2.out (Blk.lt HS.out))
    have c35b := HC.out w2 HSB2.out
    have HG3 : Hid (∀ w3, w2.grownBy w3 (some g) → Below D.heap.size D w3 ∧ SetAt w3 zp b (addAll ks) ∧ SKB w3 kb s) := hide (fun w3 hg3 => by
      have hb3 : Below D.heap.size D w3 := HB2.out.grown hg3 HB2.out.size (fun j e => by cases e; exact HG1.out)
      refine ⟨hb3, ?_, Blk.below HS.out hb3 (Blk.lt HS.out)⟩
      have h1 := HZ2.out
      have h2 := HBb2.out
      have h3 := HGl.out
      obtain ⟨es, clock, hm⟩ := HS2.out.map
      exact HS2.out.tch (hg3.block _ HS2.out.blk.lt (fun e => by have := Option.some.inj e; omega)) (hg3.block _ (Array.getElem?_eq_some_iff.1 hm).1 (fun e => by have := Option.some.inj e; omega)))
    have HC4 : Hid (∀ w3, Below D.heap.size D w3 → Calls Try.prog 7 #[.slice ao n c] w3 (RnewC w3 (foldAdd [] ks))) := hide (fun w3 hb3 => rnewset_any w3 ao n c ks HN.out (HRow.out w3 hb3) (by have := HNl.out; omega))
    have HC5 : Hid (∀ w4, Below D.heap.size D w4 → ∀ zn, Calls Try.prog 5 #[.pointer (some ⟨wz, 0, none⟩), .int .i64 (j : Int), .pointer (some ⟨zp, 0, none⟩), .pointer (some ⟨zn, 0, none⟩)] w4 fun e w' =>
        e = .returned (.bool true) ∧ Blk w' wz ((((wA E kv).setIfInBounds j (.pointer (some ⟨zp, 0, none⟩))).setIfInBounds (3 + j) (.pointer (some ⟨zn, 0, none⟩))).setIfInBounds (6 + j) (.bool false)) WT ∧ w4.grownBy w' (some wz)) := hide (fun w4 hb4 zn => put_any w4 wz j zp zn HJ.out (wA E kv) rfl (HL.out.below hb4).wb)
    have HB1s := hide HB1.out.size
    clear HC2 HB1 HO1 HO2 c35
    go_wp2_with (first | (go_at_call 26; (with_reducible refine HC3.out.mono ?_); rintro e w3 ⟨rfl, hg3⟩; have HG3' := hide (HG3.out w3 hg3); have c35c := HC.out w3 HG3'.out.2.2; clear hg3) | (go_at_call 7; (with_reducible refine (HC4.out w3 HG3'.out.1).mono ?_); rintro e w4 ⟨zn, rfl, hzn, hrn, hb4⟩; have HZn := hide hzn; have HRn := hide hrn; have HB4 := hide hb4; clear hzn hrn hb4) | (go_at_call 5; (with_reducible refine (HC5.out w4 (HG3'.out.1.trans (HB4.out.mono HG3'.out.1.size)) zn).mono ?_); rintro e w5 ⟨rfl, hw5, hg5⟩; have HW5 := hide hw5; have HG5 := hide hg5; clear hw5 hg5))
    go_ret
    refine ⟨rfl, _, HL.out.made (rising_foldAdd ks rising_nil) (fun x hx => HSub.out x ?_) HG3'.out.1 (Nat.le_trans HB1s.out HBb2.out) HG3'.out.2.1 (addAll_nodup ks) (fun x => ?_) (Nat.le_trans HG3'.out.1.size HZn.out) HRn.out HB4.out HJ.out HG5.out HW5.out⟩
    · rcases (mem_foldAdd [] ks x).1 hx with e | e
      · cases e
      · exact e
    · rw [mem_addAll, mem_foldAdd]
      exact ⟨.inr, fun e => e.elim (fun e => by cases e) id⟩
  · have b1 : (kd == 1) = false := by simpa using h1
    by_cases h2 : kd = 2
    · subst h2
      obtain ⟨k, hk⟩ : ∃ k, k = s.key := ⟨_, rfl⟩
      have HKE := hide hk
      have HK32 : Hid (k.length = 32) := hide (by rw [hk]; exact H32.out)
      have HKin : Hid (k ∈ TK) := hide (by rw [hk]; exact HSK.out.inK)
      clear hk
      have hTl := (HLd.out.el j HJ.out).len
      have HTl : Hid ((E j).R.length ≤ 2199023255488) := hide (by have := HTK.out; omega)
      clear hTl
      rcases (HLd.out.el j HJ.out).set with ⟨hq0, hR0⟩ | ⟨zp, S, hq1, hS1, hnd, hmem⟩
      · have HQ0 : Hid (q = none) := hide (HQ.out.trans hq0)
        have hcn : D.drew.cell? ⟨wz, 6 + j, none⟩ = some (.bool true) := by rw [HLd.out.cN HJ.out, hq0]; rfl
        have HCn := hide hcn
        have HC1 : Hid (Calls Try.prog 15 #[.pointer q, keyV k] D.drew fun e w' => e = .returned (.bool false) ∧ Below D.drew.heap.size D.drew w') := hide (by rw [HQ0.out]; exact add_nil D.drew k)
        clear hq0 hR0 hcn
        go_upto_region 9 with fail
        refine wp_norm (an_walk _ (fun _ _ _ _ _ h => h) D wz j z kb HJ.out q s H32.out false true rfl rfl (fun w2 => Below D.drew.heap.size D.drew w2) (fun _ _ => True) ⟨sk_key HSd.out, HCn.out⟩ (by rw [← HKE.out]; exact HC1.out) (fun w2 h2 => ⟨sk_key (Blk.below HSd.out h2 (Blk.lt HSd.out)), (h2.cell (World.block_lt_of_cell? _ _ HCn.out)).trans HCn.out⟩) _ ?_ ?_ ?_ ?_ ?_ ?_ ?_)
        any_goals rfl
        · exact Nat.lt_of_sub_pos (by exact Nat.succ_pos _)
        rintro w2 h2
        have HE := hide (HLd.out.below h2)
        clear h2 ck HC1
        simp only [Act.put, List.setIfInBounds_toArray, List.set_cons_zero, List.set_cons_succ, Exit.then]
        go_wp2
        go_ret
        exact ⟨rfl, _, HE.out⟩
      · have HQ1 : Hid (q = some ⟨zp, 0, none⟩) := hide (HQ.out.trans hq1)
        have HQE := hide hq1
        have HS1 := hide hS1
        have HND := hide hnd
        have HMem := hide hmem
        have hcn : D.drew.cell? ⟨wz, 6 + j, none⟩ = some (.bool false) := by rw [HLd.out.cN HJ.out, hq1]; rfl
        have HCn := hide hcn
        have HSl : Hid (S.length < maxLen) := hide (by
          have := same_len hnd (rising_nodup (HLd.out.el j HJ.out).ri) hmem
          have := HTl.out
          unfold maxLen
          omega)
        clear hq1 hS1 hnd hmem hcn
        have e1 : decide (k ∈ S) = decide (k ∈ (E j).R) := by
          by_cases g : k ∈ (E j).R
          · rw [decide_eq_true g, decide_eq_true ((HMem.out k).2 g)]
          · rw [decide_eq_false g, decide_eq_false (fun g2 => g ((HMem.out k).1 g2))]
        have HE1 := hide e1
        clear e1
        have HC1 : Hid (Calls Try.prog 15 #[.pointer q, keyV k] D.drew fun e w' => e = .returned (.bool (!decide (k ∈ (E j).R))) ∧ (SetAt w' zp (E j).b (addK k S) ∧ D.drew.grownBy w' (some (E j).b))) := hide (by rw [HQ1.out, ← HE1.out]; exact add_any D.drew zp (E j).b S k HK32.out HS1.out HSl.out)
        have HMid : Hid (∀ w2, D.drew.grownBy w2 (some (E j).b) → (∀ k cs t, Blk D.drew k cs t → Blk w2 k cs t) ∧ RsB w2 (E j).z (E j).R) := hide (fun w2 g2 => HLd.out.mid HJ.out (by rw [HQE.out]; exact fun e => by cases e) g2)
        have HC2 : Hid (∀ w2, D.drew.grownBy w2 (some (E j).b) → Calls Try.prog 16 #[.pointer (some ⟨z, 0, none⟩), keyV k] w2 fun e w' => e = .returned (.bool (!decide (k ∈ (E j).R))) ∧ (RsB w' (E j).z (addK k (E j).R) ∧ w2.grownBy w' (some (E j).z))) := hide (fun w2 g2 => by rw [HZ.out]; exact radd_any w2 (E j).z (E j).R k HK32.out (HMid.out w2 g2).2 (by have := HTl.out; omega))
        have HEnd : Hid (∀ w2 w3, (SetAt w2 zp (E j).b (addK k S) ∧ D.drew.grownBy w2 (some (E j).b)) → (RsB w3 (E j).z (addK k (E j).R) ∧ w2.grownBy w3 (some (E j).z)) → LwS TK w0 w3 N wz (up E j ⟨(E j).q, (E j).b, (E j).z, addK k (E j).R⟩) kv KS ∧ (∀ k cs t, Blk D.drew k cs t → t ≠ RST → Blk w3 k cs t)) := hide (fun w2 w3 h2 h3 => HLd.out.two HJ.out HQE.out h2.1 h2.2 h3.1 h3.2 (addK_nodup k S HND.out) (fun x => by rw [mem_addK, mem_addK, HMem.out x]) (rising_addK (HLd.out.el j HJ.out).ri) (fun x hx => by
          rcases (mem_addK k _ x).1 hx with rfl | hx
          · exact HKin.out
          · exact (HLd.out.el j HJ.out).sub x hx))
        have HWB := hide HLd.out.wb
        have HCB : Hid (∀ w2, Blk w2 wz (wA E kv) WT → w2.cell? ⟨wz, 6 + j, none⟩ = some (.bool false)) := hide (fun w2 h2 => by
          have := HCn.out
          rw [HWB.out.cell] at this
          rw [h2.cell]
          exact this)
        go_upto_region 9 with fail
        refine wp_norm (ad_walk _ (fun _ _ _ _ _ h => h) D wz j z kb HJ.out q s H32.out (!decide (k ∈ (E j).R)) false rfl (fun w' => SetAt w' zp (E j).b (addK k S) ∧ D.drew.grownBy w' (some (E j).b)) (fun w2 w' => RsB w' (E j).z (addK k (E j).R) ∧ w2.grownBy w' (some (E j).z)) ⟨sk_key HSd.out, HCn.out⟩ (by rw [← HKE.out]; exact HC1.out) (fun w2 h2 => ⟨sk_key ((HMid.out w2 h2.2).1 _ _ _ HSd.out), HCB.out w2 ((HMid.out w2 h2.2).1 _ _ _ HWB.out)⟩) (fun w2 h2 => by rw [← HKE.out]; exact HC2.out w2 h2.2) (fun w2 w3 h2 h3 => ⟨sk_key ((HEnd.out w2 w3 h2 h3).2 _ _ _ HSd.out (by decide)), HCB.out w3 ((HEnd.out w2 w3 h2 h3).2 _ _ _ HWB.out (by decide))⟩) _ ?_ ?_ ?_ ?_ ?_ ?_ ?_)
        any_goals rfl
        · exact Nat.lt_of_sub_pos (by exact Nat.succ_pos _)
        rintro w2 h2 w3 h3
        have HE := hide (HEnd.out w2 w3 h2 h3).1
        clear h2 h3 ck HC1 HC2 HEnd HMid
        simp only [Act.put, List.setIfInBounds_toArray, List.set_cons_zero, List.set_cons_succ, Exit.then]
        go_wp2
        go_ret
        exact ⟨rfl, _, HE.out⟩
    · have b2 : (kd == 2) = false := by simpa using h2
      by_cases h4 : kd = 4
      · subst h4
        obtain ⟨k, hk⟩ : ∃ k, k = s.key := ⟨_, rfl⟩
        have HKE := hide hk
        have HK32 : Hid (k.length = 32) := hide (by rw [hk]; exact H32.out)
        clear hk
        have hTl := (HLd.out.el j HJ.out).len
        have HTl : Hid ((E j).R.length ≤ 2199023255488) := hide (by have := HTK.out; omega)
        clear hTl
        rcases (HLd.out.el j HJ.out).set with ⟨hq0, hR0⟩ | ⟨zp, S, hq1, hS1, hnd, hmem⟩
        · have HQ0 : Hid (q = none) := hide (HQ.out.trans hq0)
          have HQE := hide hq0
          have HR0 := hide hR0
          have HC1 : Hid (Calls Try.prog 27 #[.pointer q, keyV k] D.drew fun e w' => e = .returned (.bool false) ∧ Below D.drew.heap.size D.drew w') := hide (by rw [HQ0.out]; exact del_nil D.drew k HK32.out)
          have HC2 : Hid (∀ w2, Below D.drew.heap.size D.drew w2 → Calls Try.prog 28 #[.pointer (some ⟨z, 0, none⟩), keyV k] w2 fun e w' => e = .returned (.bool false) ∧ (RsB w' (E j).z (delK k (E j).R) ∧ w2.grownBy w' (some (E j).z))) := hide (fun w2 h2 => by
            have e0 : decide (k ∈ (E j).R) = false := decide_eq_false (by rw [HR0.out]; exact fun e => by cases e)
            rw [HZ.out, ← e0]
            exact rdel_any w2 (E j).z (E j).R k HK32.out ((HLd.out.below h2).el j HJ.out).rs (by have := HTl.out; omega))
          have HEnd : Hid (∀ w2 w3, Below D.drew.heap.size D.drew w2 → (RsB w3 (E j).z (delK k (E j).R) ∧ w2.grownBy w3 (some (E j).z)) → LwS TK w0 w3 N wz (up E j ⟨(E j).q, (E j).b, (E j).z, delK k (E j).R⟩) kv KS ∧ (∀ k cs t, Blk D.drew k cs t → t ≠ RST → Blk w3 k cs t)) := hide (fun w2 w3 h2 h3 => HLd.out.nilDel HJ.out HQE.out h2 h3.1 h3.2 (by rw [HR0.out]; rfl))
          clear hq0 hR0
          go_upto_region 11 with fail
          refine wp_norm (dl_walk _ (fun _ _ _ _ _ h => h) D wz j z kb HJ.out q s H32.out false false (fun w2 => Below D.drew.heap.size D.drew w2) (fun w2 w' => RsB w' (E j).z (delK k (E j).R) ∧ w2.grownBy w' (some (E j).z)) ⟨sk_key HSd.out, trivial⟩ (by rw [← HKE.out]; exact HC1.out) (fun w2 h2 => ⟨sk_key (Blk.below HSd.out h2 (Blk.lt HSd.out)), trivial⟩) (fun w2 h2 => by rw [← HKE.out]; exact HC2.out w2 h2) (fun w2 w3 h2 h3 => ⟨sk_key ((HEnd.out w2 w3 h2 h3).2 _ _ _ HSd.out (by decide)), trivial⟩) _ ?_ ?_ ?_ ?_ ?_)
          any_goals rfl
          · exact Nat.lt_of_sub_pos (by exact Nat.succ_pos _)
          rintro w2 h2 w3 h3
          have HE := hide (HEnd.out w2 w3 h2 h3).1
          clear h2 h3 ck HC1 HC2 HEnd
          simp only [Act.put, List.setIfInBounds_toArray, List.set_cons_zero, List.set_cons_succ, Exit.then]
          go_wp2
          go_ret
          exact ⟨rfl, _, HE.out⟩
        · have HQ1 : Hid (q = some ⟨zp, 0, none⟩) := hide (HQ.out.trans hq1)
          have HQE := hide hq1
          have HS1 := hide hS1
          have HND := hide hnd
          have HMem := hide hmem
          clear hq1 hS1 hnd hmem
          have e1 : decide (k ∈ S) = decide (k ∈ (E j).R) := by
            by_cases g : k ∈ (E j).R
            · rw [decide_eq_true g, decide_eq_true ((HMem.out k).2 g)]
            · rw [decide_eq_false g, decide_eq_false (fun g2 => g ((HMem.out k).1 g2))]
          have HE1 := hide e1
          clear e1
          have HC1 : Hid (Calls Try.prog 27 #[.pointer q, keyV k] D.drew fun e w' => e = .returned (.bool (decide (k ∈ (E j).R))) ∧ (SetAt w' zp (E j).b (dropK k S) ∧ D.drew.grownBy w' (some (E j).b))) := hide (by rw [HQ1.out, ← HE1.out]; exact del_any D.drew zp (E j).b S k HK32.out HS1.out HND.out)
          have HMid : Hid (∀ w2, D.drew.grownBy w2 (some (E j).b) → (∀ k cs t, Blk D.drew k cs t → Blk w2 k cs t) ∧ RsB w2 (E j).z (E j).R) := hide (fun w2 g2 => HLd.out.mid HJ.out (by rw [HQE.out]; exact fun e => by cases e) g2)
          have HC2 : Hid (∀ w2, D.drew.grownBy w2 (some (E j).b) → Calls Try.prog 28 #[.pointer (some ⟨z, 0, none⟩), keyV k] w2 fun e w' => e = .returned (.bool (decide (k ∈ (E j).R))) ∧ (RsB w' (E j).z (delK k (E j).R) ∧ w2.grownBy w' (some (E j).z))) := hide (fun w2 g2 => by rw [HZ.out]; exact rdel_any w2 (E j).z (E j).R k HK32.out (HMid.out w2 g2).2 (by have := HTl.out; omega))
          have HEnd : Hid (∀ w2 w3, (SetAt w2 zp (E j).b (dropK k S) ∧ D.drew.grownBy w2 (some (E j).b)) → (RsB w3 (E j).z (delK k (E j).R) ∧ w2.grownBy w3 (some (E j).z)) → LwS TK w0 w3 N wz (up E j ⟨(E j).q, (E j).b, (E j).z, delK k (E j).R⟩) kv KS ∧ (∀ k cs t, Blk D.drew k cs t → t ≠ RST → Blk w3 k cs t)) := hide (fun w2 w3 h2 h3 => HLd.out.two HJ.out HQE.out h2.1 h2.2 h3.1 h3.2 (dropK_nodup HND.out) (fun x => by rw [mem_dropK, mem_delK, HMem.out x]) (rising_delK (HLd.out.el j HJ.out).ri) (fun x hx => (HLd.out.el j HJ.out).sub x ((mem_delK k _ x).1 hx).1))
          go_upto_region 11 with fail
          refine wp_norm (dl_walk _ (fun _ _ _ _ _ h => h) D wz j z kb HJ.out q s H32.out (decide (k ∈ (E j).R)) false (fun w' => SetAt w' zp (E j).b (dropK k S) ∧ D.drew.grownBy w' (some (E j).b)) (fun w2 w' => RsB w' (E j).z (delK k (E j).R) ∧ w2.grownBy w' (some (E j).z)) ⟨sk_key HSd.out, trivial⟩ (by rw [← HKE.out]; exact HC1.out) (fun w2 h2 => ⟨sk_key ((HMid.out w2 h2.2).1 _ _ _ HSd.out), trivial⟩) (fun w2 h2 => by rw [← HKE.out]; exact HC2.out w2 h2.2) (fun w2 w3 h2 h3 => ⟨sk_key ((HEnd.out w2 w3 h2 h3).2 _ _ _ HSd.out (by decide)), trivial⟩) _ ?_ ?_ ?_ ?_ ?_)
          any_goals rfl
          · exact Nat.lt_of_sub_pos (by exact Nat.succ_pos _)
          rintro w2 h2 w3 h3
          have HE := hide (HEnd.out w2 w3 h2 h3).1
          clear h2 h3 ck HC1 HC2 HEnd HMid
          simp only [Act.put, List.setIfInBounds_toArray, List.set_cons_zero, List.set_cons_succ, Exit.then]
          go_wp2
          go_ret
          exact ⟨rfl, _, HE.out⟩
      · have b4 : (kd == 4) = false := by simpa using h4
        by_cases h8 : kd = 8
        · subst h8
          obtain ⟨j2, hj2⟩ : ∃ j2, j2 = thN ((jj : Int) + 1) := ⟨_, rfl⟩
          have HJ2 : Hid (j2 < 3) := hide (by rw [hj2]; exact thN_lt _)
          have HNe : Hid (jj ≠ j2) := hide (by rw [hj2]; exact fun e => th_ne HJJ.out e.symm)
          have HC0 : Hid (Calls Try.prog 17 #[.int .i64 ((jj : Int) + 1)] D.drew fun e w' => e = .returned (.int .i64 (j2 : Int)) ∧ w' = D.drew) := hide (by rw [hj2]; exact three_val _ _)
          clear hj2
          obtain ⟨SA, hA1, hA2, hA3, hA4, hA5⟩ := (HLd.out.el j HJ.out).q
          obtain ⟨SB, hB1, hB2, hB3, hB4, hB5⟩ := (HLd.out.el jj HJJ.out).q
          have hlA := (HLd.out.el j HJ.out).len
          have hlB := (HLd.out.el jj HJJ.out).len
          have HLA : Hid ((E j).R.length ≤ 2199023255488) := hide (by have := HTK.out; omega)
          have HLB : Hid ((E jj).R.length ≤ 2199023255488) := hide (by have := HTK.out; omega)
          have HmR : Hid (∀ x, x ∈ foldAdd (foldAdd [] (E j).R) (E jj).R ↔ (x ∈ (E j).R ∨ x ∈ (E jj).R)) := hide (fun x => by
            rw [mem_foldAdd, mem_foldAdd]; simp)
          have HSub : Hid (∀ x ∈ foldAdd (foldAdd [] (E j).R) (E jj).R, x ∈ TK) := hide (fun x hx => by
            have := (HmR.out x).1 hx
            have ha := (HLd.out.el j HJ.out).sub x
            have hb := (HLd.out.el jj HJJ.out).sub x
            rcases this with e | e
            · exact ha e
            · exact hb e)
          have HC1 : Hid (Calls Try.prog 29 #[.pointer q, .pointer (E jj).q] D.drew fun e w' => ∃ zp, e = .returned (.pointer (some ⟨zp, 0, none⟩)) ∧ ∃ b U, D.drew.heap.size ≤ b ∧ SetAt w' zp b U ∧ U.Nodup ∧ (∀ x, x ∈ U ↔ x ∈ foldAdd (foldAdd [] (E j).R) (E jj).R) ∧ Below D.drew.heap.size D.drew w') := hide (by
            rw [HQ.out]
            refine (union_q D.drew (E j).q (E jj).q SA SB hA1 hB1 (by have := HLA.out; have := HLB.out; omega)).mono (fun e w' ⟨U, ⟨⟨zp, b, e1, _, g2, g3, g4⟩, g5⟩, g6⟩ => ⟨zp, e1, b, U, g2, g3, g5, fun x => ?_, g4⟩)
            rw [g6 x, HmR.out x, hA3 x, hB3 x]
            have ha := (HLd.out.el j HJ.out).l32 x
            have hb := (HLd.out.el jj HJJ.out).l32 x
            exact ⟨fun h => h.2, fun h => ⟨by rcases h with e | e; exact ha e; exact hb e, h⟩⟩)
          have HC2 : Hid (∀ w2, Below D.drew.heap.size D.drew w2 → Calls Try.prog 30 #[.pointer (some ⟨z, 0, none⟩), .pointer (some ⟨(E jj).z, 0, none⟩)] w2 fun e w' => ∃ zn, e = .returned (.pointer (some ⟨zn, 0, none⟩)) ∧ (w2.heap.size ≤ zn ∧ RsB w' zn (foldAdd (foldAdd [] (E j).R) (E jj).R) ∧ Below w2.heap.size w2 w')) := hide (fun w2 h2 => by
            rw [HZ.out]
            exact (runion_any w2 (E j).z (E jj).z (E j).R (E jj).R ((HLd.out.below h2).el j HJ.out).rs ((HLd.out.below h2).el jj HJJ.out).rs (by have := HLA.out; have := HLB.out; omega)).mono (fun e w' ⟨zn, e1, g⟩ => ⟨zn, e1, g⟩))
          clear hA1 hA2 hA3 hA4 hA5 hB1 hB2 hB3 hB4 hB5 hlA hlB
          have HC3 : Hid (∀ w3 zp zn, Below D.drew.heap.size D.drew w3 → Calls Try.prog 5 #[.pointer (some ⟨wz, 0, none⟩), .int .i64 (j2 : Int), .pointer (some ⟨zp, 0, none⟩), .pointer (some ⟨zn, 0, none⟩)] w3 fun e w' => e = .returned (.bool true) ∧ (Blk w' wz ((((wA E kv).setIfInBounds j2 (.pointer (some ⟨zp, 0, none⟩))).setIfInBounds (3 + j2) (.pointer (some ⟨zn, 0, none⟩))).setIfInBounds (6 + j2) (.bool false)) WT ∧ w3.grownBy w' (some wz))) := hide (fun w3 zp zn h3 => put_any w3 wz j2 zp zn HJ2.out (wA E kv) rfl (HLd.out.below h3).wb)
          have HCel : Hid (∀ w3, Below D.drew.heap.size D.drew w3 → w3.cell? ⟨wz, jj, none⟩ = some (.pointer (E jj).q) ∧ w3.cell? ⟨wz, 3 + jj, none⟩ = some (.pointer (some ⟨(E jj).z, 0, none⟩))) := hide (fun w3 h3 => ⟨(HLd.out.below h3).cP HJJ.out, (HLd.out.below h3).cR HJJ.out⟩)
          have HEnd : Hid (∀ w1 zp w2 zn w3 w4, w1 = D.drew → (∃ b U, D.drew.heap.size ≤ b ∧ SetAt w2 zp b U ∧ U.Nodup ∧ (∀ x, x ∈ U ↔ x ∈ foldAdd (foldAdd [] (E j).R) (E jj).R) ∧ Below D.drew.heap.size D.drew w2) → (w2.heap.size ≤ zn ∧ RsB w3 zn (foldAdd (foldAdd [] (E j).R) (E jj).R) ∧ Below w2.heap.size w2 w3) → (Blk w4 wz ((((wA E kv).setIfInBounds j2 (.pointer (some ⟨zp, 0, none⟩))).setIfInBounds (3 + j2) (.pointer (some ⟨zn, 0, none⟩))).setIfInBounds (6 + j2) (.bool false)) WT ∧ w3.grownBy w4 (some wz)) → ∃ E', LwS TK w0 w4 N wz E' kv KS ∧ (E' jj).q = (E jj).q ∧ (E' jj).z = (E jj).z) := hide (fun w1 zp w2 zn w3 w4 _ ⟨b, U, g1, g2, g3, g4, g5⟩ ⟨g6, g7, g8⟩ ⟨g9, g10⟩ => by
            refine ⟨_, HLd.out.made (R' := foldAdd (foldAdd [] (E j).R) (E jj).R) (rising_foldAdd _ (rising_foldAdd _ rising_nil)) HSub.out g5 g1 g2 g3 g4 (Nat.le_trans g5.size g6) g7 g8 HJ2.out g10 g9, ?_, ?_⟩
            · rw [up_other E _ HNe.out]
            · rw [up_other E _ HNe.out])
          go_upto_region 13 with fail
          refine wp_norm (un_walk _ (fun _ _ _ _ _ h => h) D wz jj j2 z (E jj).z HJJ.out q (E jj).q (fun w' => w' = D.drew) (fun _ zp w2 => ∃ b U, D.drew.heap.size ≤ b ∧ SetAt w2 zp b U ∧ U.Nodup ∧ (∀ x, x ∈ U ↔ x ∈ foldAdd (foldAdd [] (E j).R) (E jj).R) ∧ Below D.drew.heap.size D.drew w2) (fun _ _ w2 zn w3 => w2.heap.size ≤ zn ∧ RsB w3 zn (foldAdd (foldAdd [] (E j).R) (E jj).R) ∧ Below w2.heap.size w2 w3) (fun _ zp _ zn w3 w4 => Blk w4 wz ((((wA E kv).setIfInBounds j2 (.pointer (some ⟨zp, 0, none⟩))).setIfInBounds (3 + j2) (.pointer (some ⟨zn, 0, none⟩))).setIfInBounds (6 + j2) (.bool false)) WT ∧ w3.grownBy w4 (some wz)) (HCel.out _ (Below.refl _ _)) HC0.out (fun w1 h1 => by rw [h1]; exact HCel.out _ (Below.refl _ _)) (fun w1 h1 => by rw [h1]; exact HC1.out) (fun w1 zp w2 _ ⟨_, _, _, _, _, _, h2⟩ => HCel.out w2 h2) (fun w1 zp w2 _ ⟨_, _, _, _, _, _, h2⟩ => HC2.out w2 h2) (fun w1 zp w2 zn w3 _ ⟨_, _, _, _, _, _, h2⟩ ⟨_, _, h3⟩ => HCel.out w3 (h2.trans (h3.mono h2.size))) (fun w1 zp w2 zn w3 _ ⟨_, _, _, _, _, _, h2⟩ ⟨_, _, h3⟩ => HC3.out w3 zp zn (h2.trans (h3.mono h2.size))) (fun w1 zp w2 zn w3 w4 h1 h2 h3 h4 => by
            obtain ⟨E', g1, g2, g3⟩ := HEnd.out w1 zp w2 zn w3 w4 h1 h2 h3 h4
            rw [← g2, ← g3]
            exact ⟨g1.cP HJJ.out, g1.cR HJJ.out⟩) _ ?_ ?_ ?_ ?_ ?_ ?_)
          any_goals rfl
          · exact Nat.lt_of_sub_pos (by exact Nat.succ_pos _)
          rintro w1 h1 zp w2 h2 zn w3 h3 w4 h4
          obtain ⟨E', hE', _⟩ := HEnd.out w1 zp w2 zn w3 w4 h1 h2 h3 h4
          have HE := hide hE'
          clear hE' h1 h2 h3 h4 ck HC0 HC1 HC2 HC3 HEnd HCel
          simp only [Act.put, List.setIfInBounds_toArray, List.set_cons_zero, List.set_cons_succ, Exit.then]
          go_wp2
          go_ret
          exact ⟨rfl, _, HE.out⟩
        · have b8 : (kd == 8) = false := by simpa using h8
          by_cases h9 : kd = 9
          · subst h9
            obtain ⟨j2, hj2⟩ : ∃ j2, j2 = thN ((jj : Int) + 1) := ⟨_, rfl⟩
            have HJ2 : Hid (j2 < 3) := hide (by rw [hj2]; exact thN_lt _)
            have HNe : Hid (jj ≠ j2) := hide (by rw [hj2]; exact fun e => th_ne HJJ.out e.symm)
            have HC0 : Hid (Calls Try.prog 17 #[.int .i64 ((jj : Int) + 1)] D.drew fun e w' => e = .returned (.int .i64 (j2 : Int)) ∧ w' = D.drew) := hide (by rw [hj2]; exact three_val _ _)
            clear hj2
            obtain ⟨SA, hA1, hA2, hA3, hA4, hA5⟩ := (HLd.out.el j HJ.out).q
            obtain ⟨SB, hB1, hB2, hB3, hB4, hB5⟩ := (HLd.out.el jj HJJ.out).q
            have hlA := (HLd.out.el j HJ.out).len
            have hlB := (HLd.out.el jj HJJ.out).len
            have HLA : Hid ((E j).R.length ≤ 2199023255488) := hide (by have := HTK.out; omega)
            have HLB : Hid ((E jj).R.length ≤ 2199023255488) := hide (by have := HTK.out; omega)
            have HmR : Hid (∀ x, x ∈ foldAdd [] (selD (E jj).R true (E j).R) ↔ (x ∈ (E j).R ∧ x ∈ (E jj).R)) := hide (fun x => by
              rw [mem_foldAdd, selD, List.mem_filter]; simp)
            have HSub : Hid (∀ x ∈ foldAdd [] (selD (E jj).R true (E j).R), x ∈ TK) := hide (fun x hx => by
              have := (HmR.out x).1 hx
              have ha := (HLd.out.el j HJ.out).sub x
              have hb := (HLd.out.el jj HJJ.out).sub x
              exact ha this.1)
            have HC1 : Hid (Calls Try.prog 31 #[.pointer q, .pointer (E jj).q] D.drew fun e w' => ∃ zp, e = .returned (.pointer (some ⟨zp, 0, none⟩)) ∧ ∃ b U, D.drew.heap.size ≤ b ∧ SetAt w' zp b U ∧ U.Nodup ∧ (∀ x, x ∈ U ↔ x ∈ foldAdd [] (selD (E jj).R true (E j).R)) ∧ Below D.drew.heap.size D.drew w') := hide (by
              rw [HQ.out]
              refine (both_q D.drew (E j).q (E jj).q SA SB hA1 hB1 (by have := HLA.out; have := HLB.out; omega)).mono (fun e w' ⟨U, ⟨⟨zp, b, e1, _, g2, g3, g4⟩, g5⟩, g6⟩ => ⟨zp, e1, b, U, g2, g3, g5, fun x => ?_, g4⟩)
              rw [g6 x, HmR.out x, hA3 x, hB3 x]
              have ha := (HLd.out.el j HJ.out).l32 x
              have hb := (HLd.out.el jj HJJ.out).l32 x
              exact ⟨fun h => h.2, fun h => ⟨ha h.1, h⟩⟩)
            have HC2 : Hid (∀ w2, Below D.drew.heap.size D.drew w2 → Calls Try.prog 32 #[.pointer (some ⟨z, 0, none⟩), .pointer (some ⟨(E jj).z, 0, none⟩)] w2 fun e w' => ∃ zn, e = .returned (.pointer (some ⟨zn, 0, none⟩)) ∧ (w2.heap.size ≤ zn ∧ RsB w' zn (foldAdd [] (selD (E jj).R true (E j).R)) ∧ Below w2.heap.size w2 w')) := hide (fun w2 h2 => by
              rw [HZ.out]
              exact (rboth_any w2 (E j).z (E jj).z (E j).R (E jj).R ((HLd.out.below h2).el j HJ.out).rs ((HLd.out.below h2).el jj HJJ.out).rs (by have := HLA.out; have := HLB.out; omega)).mono (fun e w' ⟨zn, e1, g⟩ => ⟨zn, e1, g⟩))
            clear hA1 hA2 hA3 hA4 hA5 hB1 hB2 hB3 hB4 hB5 hlA hlB
            have HC3 : Hid (∀ w3 zp zn, Below D.drew.heap.size D.drew w3 → Calls Try.prog 5 #[.pointer (some ⟨wz, 0, none⟩), .int .i64 (j2 : Int), .pointer (some ⟨zp, 0, none⟩), .pointer (some ⟨zn, 0, none⟩)] w3 fun e w' => e = .returned (.bool true) ∧ (Blk w' wz ((((wA E kv).setIfInBounds j2 (.pointer (some ⟨zp, 0, none⟩))).setIfInBounds (3 + j2) (.pointer (some ⟨zn, 0, none⟩))).setIfInBounds (6 + j2) (.bool false)) WT ∧ w3.grownBy w' (some wz))) := hide (fun w3 zp zn h3 => put_any w3 wz j2 zp zn HJ2.out (wA E kv) rfl (HLd.out.below h3).wb)
            have HCel : Hid (∀ w3, Below D.drew.heap.size D.drew w3 → w3.cell? ⟨wz, jj, none⟩ = some (.pointer (E jj).q) ∧ w3.cell? ⟨wz, 3 + jj, none⟩ = some (.pointer (some ⟨(E jj).z, 0, none⟩))) := hide (fun w3 h3 => ⟨(HLd.out.below h3).cP HJJ.out, (HLd.out.below h3).cR HJJ.out⟩)
            have HEnd : Hid (∀ w1 zp w2 zn w3 w4, w1 = D.drew → (∃ b U, D.drew.heap.size ≤ b ∧ SetAt w2 zp b U ∧ U.Nodup ∧ (∀ x, x ∈ U ↔ x ∈ foldAdd [] (selD (E jj).R true (E j).R)) ∧ Below D.drew.heap.size D.drew w2) → (w2.heap.size ≤ zn ∧ RsB w3 zn (foldAdd [] (selD (E jj).R true (E j).R)) ∧ Below w2.heap.size w2 w3) → (Blk w4 wz ((((wA E kv).setIfInBounds j2 (.pointer (some ⟨zp, 0, none⟩))).setIfInBounds (3 + j2) (.pointer (some ⟨zn, 0, none⟩))).setIfInBounds (6 + j2) (.bool false)) WT ∧ w3.grownBy w4 (some wz)) → ∃ E', LwS TK w0 w4 N wz E' kv KS ∧ (E' jj).q = (E jj).q ∧ (E' jj).z = (E jj).z) := hide (fun w1 zp w2 zn w3 w4 _ ⟨b, U, g1, g2, g3, g4, g5⟩ ⟨g6, g7, g8⟩ ⟨g9, g10⟩ => by
              refine ⟨_, HLd.out.made (R' := foldAdd [] (selD (E jj).R true (E j).R)) (rising_foldAdd _ rising_nil) HSub.out g5 g1 g2 g3 g4 (Nat.le_trans g5.size g6) g7 g8 HJ2.out g10 g9, ?_, ?_⟩
              · rw [up_other E _ HNe.out]
              · rw [up_other E _ HNe.out])
            go_upto_region 15 with fail
            refine wp_norm (bo_walk _ (fun _ _ _ _ _ h => h) D wz jj j2 z (E jj).z HJJ.out q (E jj).q (fun w' => w' = D.drew) (fun _ zp w2 => ∃ b U, D.drew.heap.size ≤ b ∧ SetAt w2 zp b U ∧ U.Nodup ∧ (∀ x, x ∈ U ↔ x ∈ foldAdd [] (selD (E jj).R true (E j).R)) ∧ Below D.drew.heap.size D.drew w2) (fun _ _ w2 zn w3 => w2.heap.size ≤ zn ∧ RsB w3 zn (foldAdd [] (selD (E jj).R true (E j).R)) ∧ Below w2.heap.size w2 w3) (fun _ zp _ zn w3 w4 => Blk w4 wz ((((wA E kv).setIfInBounds j2 (.pointer (some ⟨zp, 0, none⟩))).setIfInBounds (3 + j2) (.pointer (some ⟨zn, 0, none⟩))).setIfInBounds (6 + j2) (.bool false)) WT ∧ w3.grownBy w4 (some wz)) (HCel.out _ (Below.refl _ _)) HC0.out (fun w1 h1 => by rw [h1]; exact HCel.out _ (Below.refl _ _)) (fun w1 h1 => by rw [h1]; exact HC1.out) (fun w1 zp w2 _ ⟨_, _, _, _, _, _, h2⟩ => HCel.out w2 h2) (fun w1 zp w2 _ ⟨_, _, _, _, _, _, h2⟩ => HC2.out w2 h2) (fun w1 zp w2 zn w3 _ ⟨_, _, _, _, _, _, h2⟩ ⟨_, _, h3⟩ => HCel.out w3 (h2.trans (h3.mono h2.size))) (fun w1 zp w2 zn w3 _ ⟨_, _, _, _, _, _, h2⟩ ⟨_, _, h3⟩ => HC3.out w3 zp zn (h2.trans (h3.mono h2.size))) (fun w1 zp w2 zn w3 w4 h1 h2 h3 h4 => by
              obtain ⟨E', g1, g2, g3⟩ := HEnd.out w1 zp w2 zn w3 w4 h1 h2 h3 h4
              rw [← g2, ← g3]
              exact ⟨g1.cP HJJ.out, g1.cR HJJ.out⟩) _ ?_ ?_ ?_ ?_ ?_ ?_)
            any_goals rfl
            · exact Nat.lt_of_sub_pos (by exact Nat.succ_pos _)
            rintro w1 h1 zp w2 h2 zn w3 h3 w4 h4
            obtain ⟨E', hE', _⟩ := HEnd.out w1 zp w2 zn w3 w4 h1 h2 h3 h4
            have HE := hide hE'
            clear hE' h1 h2 h3 h4 ck HC0 HC1 HC2 HC3 HEnd HCel
            simp only [Act.put, List.setIfInBounds_toArray, List.set_cons_zero, List.set_cons_succ, Exit.then]
            go_wp2
            go_ret
            exact ⟨rfl, _, HE.out⟩
          · have b9 : (kd == 9) = false := by simpa using h9
            by_cases h10 : kd = 10
            · subst h10
              obtain ⟨j2, hj2⟩ : ∃ j2, j2 = thN ((jj : Int) + 1) := ⟨_, rfl⟩
              have HJ2 : Hid (j2 < 3) := hide (by rw [hj2]; exact thN_lt _)
              have HNe : Hid (jj ≠ j2) := hide (by rw [hj2]; exact fun e => th_ne HJJ.out e.symm)
              have HC0 : Hid (Calls Try.prog 17 #[.int .i64 ((jj : Int) + 1)] D.drew fun e w' => e = .returned (.int .i64 (j2 : Int)) ∧ w' = D.drew) := hide (by rw [hj2]; exact three_val _ _)
              clear hj2
              obtain ⟨SA, hA1, hA2, hA3, hA4, hA5⟩ := (HLd.out.el j HJ.out).q
              obtain ⟨SB, hB1, hB2, hB3, hB4, hB5⟩ := (HLd.out.el jj HJJ.out).q
              have hlA := (HLd.out.el j HJ.out).len
              have hlB := (HLd.out.el jj HJJ.out).len
              have HLA : Hid ((E j).R.length ≤ 2199023255488) := hide (by have := HTK.out; omega)
              have HLB : Hid ((E jj).R.length ≤ 2199023255488) := hide (by have := HTK.out; omega)
              have HmR : Hid (∀ x, x ∈ foldAdd [] (selD (E jj).R false (E j).R) ↔ (x ∈ (E j).R ∧ ¬ x ∈ (E jj).R)) := hide (fun x => by
                rw [mem_foldAdd, selD, List.mem_filter]; simp)
              have HSub : Hid (∀ x ∈ foldAdd [] (selD (E jj).R false (E j).R), x ∈ TK) := hide (fun x hx => by
                have := (HmR.out x).1 hx
                have ha := (HLd.out.el j HJ.out).sub x
                have hb := (HLd.out.el jj HJJ.out).sub x
                exact ha this.1)
              have HC1 : Hid (Calls Try.prog 33 #[.pointer q, .pointer (E jj).q] D.drew fun e w' => ∃ zp, e = .returned (.pointer (some ⟨zp, 0, none⟩)) ∧ ∃ b U, D.drew.heap.size ≤ b ∧ SetAt w' zp b U ∧ U.Nodup ∧ (∀ x, x ∈ U ↔ x ∈ foldAdd [] (selD (E jj).R false (E j).R)) ∧ Below D.drew.heap.size D.drew w') := hide (by
                rw [HQ.out]
                refine (minus_q D.drew (E j).q (E jj).q SA SB hA1 hB1 (by have := HLA.out; have := HLB.out; omega)).mono (fun e w' ⟨U, ⟨⟨zp, b, e1, _, g2, g3, g4⟩, g5⟩, g6⟩ => ⟨zp, e1, b, U, g2, g3, g5, fun x => ?_, g4⟩)
                rw [g6 x, HmR.out x, hA3 x, hB3 x]
                have ha := (HLd.out.el j HJ.out).l32 x
                have hb := (HLd.out.el jj HJJ.out).l32 x
                exact ⟨fun h => h.2, fun h => ⟨ha h.1, h⟩⟩)
              have HC2 : Hid (∀ w2, Below D.drew.heap.size D.drew w2 → Calls Try.prog 34 #[.pointer (some ⟨z, 0, none⟩), .pointer (some ⟨(E jj).z, 0, none⟩)] w2 fun e w' => ∃ zn, e = .returned (.pointer (some ⟨zn, 0, none⟩)) ∧ (w2.heap.size ≤ zn ∧ RsB w' zn (foldAdd [] (selD (E jj).R false (E j).R)) ∧ Below w2.heap.size w2 w')) := hide (fun w2 h2 => by
                rw [HZ.out]
                exact (rminus_any w2 (E j).z (E jj).z (E j).R (E jj).R ((HLd.out.below h2).el j HJ.out).rs ((HLd.out.below h2).el jj HJJ.out).rs (by have := HLA.out; have := HLB.out; omega)).mono (fun e w' ⟨zn, e1, g⟩ => ⟨zn, e1, g⟩))
              clear hA1 hA2 hA3 hA4 hA5 hB1 hB2 hB3 hB4 hB5 hlA hlB
              have HC3 : Hid (∀ w3 zp zn, Below D.drew.heap.size D.drew w3 → Calls Try.prog 5 #[.pointer (some ⟨wz, 0, none⟩), .int .i64 (j2 : Int), .pointer (some ⟨zp, 0, none⟩), .pointer (some ⟨zn, 0, none⟩)] w3 fun e w' => e = .returned (.bool true) ∧ (Blk w' wz ((((wA E kv).setIfInBounds j2 (.pointer (some ⟨zp, 0, none⟩))).setIfInBounds (3 + j2) (.pointer (some ⟨zn, 0, none⟩))).setIfInBounds (6 + j2) (.bool false)) WT ∧ w3.grownBy w' (some wz))) := hide (fun w3 zp zn h3 => put_any w3 wz j2 zp zn HJ2.out (wA E kv) rfl (HLd.out.below h3).wb)
              have HCel : Hid (∀ w3, Below D.drew.heap.size D.drew w3 → w3.cell? ⟨wz, jj, none⟩ = some (.pointer (E jj).q) ∧ w3.cell? ⟨wz, 3 + jj, none⟩ = some (.pointer (some ⟨(E jj).z, 0, none⟩))) := hide (fun w3 h3 => ⟨(HLd.out.below h3).cP HJJ.out, (HLd.out.below h3).cR HJJ.out⟩)
              have HEnd : Hid (∀ w1 zp w2 zn w3 w4, w1 = D.drew → (∃ b U, D.drew.heap.size ≤ b ∧ SetAt w2 zp b U ∧ U.Nodup ∧ (∀ x, x ∈ U ↔ x ∈ foldAdd [] (selD (E jj).R false (E j).R)) ∧ Below D.drew.heap.size D.drew w2) → (w2.heap.size ≤ zn ∧ RsB w3 zn (foldAdd [] (selD (E jj).R false (E j).R)) ∧ Below w2.heap.size w2 w3) → (Blk w4 wz ((((wA E kv).setIfInBounds j2 (.pointer (some ⟨zp, 0, none⟩))).setIfInBounds (3 + j2) (.pointer (some ⟨zn, 0, none⟩))).setIfInBounds (6 + j2) (.bool false)) WT ∧ w3.grownBy w4 (some wz)) → ∃ E', LwS TK w0 w4 N wz E' kv KS ∧ (E' jj).q = (E jj).q ∧ (E' jj).z = (E jj).z) := hide (fun w1 zp w2 zn w3 w4 _ ⟨b, U, g1, g2, g3, g4, g5⟩ ⟨g6, g7, g8⟩ ⟨g9, g10⟩ => by
                refine ⟨_, HLd.out.made (R' := foldAdd [] (selD (E jj).R false (E j).R)) (rising_foldAdd _ rising_nil) HSub.out g5 g1 g2 g3 g4 (Nat.le_trans g5.size g6) g7 g8 HJ2.out g10 g9, ?_, ?_⟩
                · rw [up_other E _ HNe.out]
                · rw [up_other E _ HNe.out])
              go_upto_region 17 with fail
              refine wp_norm (mi_walk _ (fun _ _ _ _ _ h => h) D wz jj j2 z (E jj).z HJJ.out q (E jj).q (fun w' => w' = D.drew) (fun _ zp w2 => ∃ b U, D.drew.heap.size ≤ b ∧ SetAt w2 zp b U ∧ U.Nodup ∧ (∀ x, x ∈ U ↔ x ∈ foldAdd [] (selD (E jj).R false (E j).R)) ∧ Below D.drew.heap.size D.drew w2) (fun _ _ w2 zn w3 => w2.heap.size ≤ zn ∧ RsB w3 zn (foldAdd [] (selD (E jj).R false (E j).R)) ∧ Below w2.heap.size w2 w3) (fun _ zp _ zn w3 w4 => Blk w4 wz ((((wA E kv).setIfInBounds j2 (.pointer (some ⟨zp, 0, none⟩))).setIfInBounds (3 + j2) (.pointer (some ⟨zn, 0, none⟩))).setIfInBounds (6 + j2) (.bool false)) WT ∧ w3.grownBy w4 (some wz)) (HCel.out _ (Below.refl _ _)) HC0.out (fun w1 h1 => by rw [h1]; exact HCel.out _ (Below.refl _ _)) (fun w1 h1 => by rw [h1]; exact HC1.out) (fun w1 zp w2 _ ⟨_, _, _, _, _, _, h2⟩ => HCel.out w2 h2) (fun w1 zp w2 _ ⟨_, _, _, _, _, _, h2⟩ => HC2.out w2 h2) (fun w1 zp w2 zn w3 _ ⟨_, _, _, _, _, _, h2⟩ ⟨_, _, h3⟩ => HCel.out w3 (h2.trans (h3.mono h2.size))) (fun w1 zp w2 zn w3 _ ⟨_, _, _, _, _, _, h2⟩ ⟨_, _, h3⟩ => HC3.out w3 zp zn (h2.trans (h3.mono h2.size))) (fun w1 zp w2 zn w3 w4 h1 h2 h3 h4 => by
                obtain ⟨E', g1, g2, g3⟩ := HEnd.out w1 zp w2 zn w3 w4 h1 h2 h3 h4
                rw [← g2, ← g3]
                exact ⟨g1.cP HJJ.out, g1.cR HJJ.out⟩) _ ?_ ?_ ?_ ?_ ?_ ?_)
              any_goals rfl
              · exact Nat.lt_of_sub_pos (by exact Nat.succ_pos _)
              rintro w1 h1 zp w2 h2 zn w3 h3 w4 h4
              obtain ⟨E', hE', _⟩ := HEnd.out w1 zp w2 zn w3 w4 h1 h2 h3 h4
              have HE := hide hE'
              clear hE' h1 h2 h3 h4 ck HC0 HC1 HC2 HC3 HEnd HCel
              simp only [Act.put, List.setIfInBounds_toArray, List.set_cons_zero, List.set_cons_succ, Exit.then]
              go_wp2
              go_ret
              exact ⟨rfl, _, HE.out⟩
            · have b10 : (kd == 10) = false := by simpa using h10
              by_cases h14 : kd = 14
              · subst h14
                have HC1 : Hid (Calls Try.prog 7 #[.slice none 0 0] D.drew fun e w' => ∃ zn, e = .returned (.pointer (some ⟨zn, 0, none⟩)) ∧ (D.drew.heap.size ≤ zn ∧ RsB w' zn [] ∧ Below D.drew.heap.size D.drew w')) := hide ((rnewset_any D.drew none 0 0 [] rfl ⟨fun i h => by simp at h, fun k h => by cases h⟩ (by omega)).mono (fun e w' ⟨zn, e1, g⟩ => ⟨zn, e1, g⟩))
                have HEnd : Hid (∀ zn w2 w4, (D.drew.heap.size ≤ zn ∧ RsB w2 zn [] ∧ Below D.drew.heap.size D.drew w2) → w4 = ((w2.setCell ⟨wz, j, none⟩ (.pointer none)).setCell ⟨wz, 3 + j, none⟩ (.pointer (some ⟨zn, 0, none⟩))).setCell ⟨wz, 6 + j, none⟩ (.bool true) → LwS TK w0 w4 N wz (up E j ⟨none, 0, zn, []⟩) kv KS) := hide (fun zn w2 w4 ⟨g1, g2, g3⟩ e => by
                  subst e
                  have hw := (((HLd.out.below g3).wb.set j (.pointer none)).set (3 + j) (.pointer (some ⟨zn, 0, none⟩))).set (6 + j) (.bool true)
                  rw [wA_none E kv ⟨none, 0, zn, []⟩ HJ.out rfl] at hw
                  exact HLd.out.laid g3 ⟨.inl ⟨rfl, rfl⟩, g2, rising_nil, fun x hx => by cases hx⟩ g1 (fun e => absurd rfl e) HJ.out (grownBy_trans (grownBy_trans (grown1 _ _ _ _) (grown1 _ _ _ _)) (grown1 _ _ _ _)) hw)
                go_upto_region 19 with fail
                refine wp_norm (no_walk _ (fun _ _ _ _ _ h => h) D wz j HJ.out (wA E kv) rfl (fun zn w2 => D.drew.heap.size ≤ zn ∧ RsB w2 zn [] ∧ Below D.drew.heap.size D.drew w2) HC1.out (fun zn w2 h2 => (HLd.out.below h2.2.2).wb) _ ?_ ?_ ?_ ?_)
                any_goals rfl
                · exact Nat.lt_of_sub_pos (by exact Nat.succ_pos _)
                rintro zn w2 h2
                obtain ⟨w4, hw4⟩ : ∃ w4, w4 = ((w2.setCell ⟨wz, j, none⟩ (.pointer none)).setCell ⟨wz, 3 + j, none⟩ (.pointer (some ⟨zn, 0, none⟩))).setCell ⟨wz, 6 + j, none⟩ (.bool true) := ⟨_, rfl⟩
                rw [← hw4]
                have HE := hide (HEnd.out zn w2 w4 h2 hw4)
                clear h2 hw4 ck HC1 HEnd
                simp only [Act.put, List.setIfInBounds_toArray, List.set_cons_zero, List.set_cons_succ, Exit.then]
                go_wp2
                go_ret
                exact ⟨rfl, _, HE.out⟩
              · have b14 : (kd == 14) = false := by simpa using h14
                go_wp2
                go_ret
                exact ⟨rfl, _, HL.out⟩
end Go.Proofs.Ytnloglecfbhpcaa
