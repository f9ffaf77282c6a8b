/- BloomNever, walked. -/
import Derived.Test.YtbemmhngadpjcaaFN1
namespace Go.Proofs.Ytbemmhngadpjcaa
set_option linter.unusedVariables false
set_option linter.unusedSimpArgs false
open Go.RowKit

theorem add_take (h : Nat) (ws : List Nat) (ks : List (List UInt8)) (i : Nat) (hi : i < ks.length) : (addK (addAll h ws (ks.take i)) (keyA ks[i]) (keyB ks[i]) h).1 = addAll h ws (ks.take (i + 1)) := by
  rw [List.take_succ_eq_append_getElem hi, addAll_append]
  rfl
theorem eqNilP (w : World) : (binOp .eql 27 (.pointer none) (.pointer none)).run Try.prog w = .ok (.bool true) w := by kernel_rfl
theorem eqSomeP (z : Nat) (w : World) : (binOp .eql 27 (.pointer (some ⟨z, 0, none⟩)) (.pointer none)).run Try.prog w = .ok (.bool false) w := by kernel_rfl
/-- What is known of a row of keys while the law runs. -/
structure KS (w : World) (ao : Option Addr) (ks : List (List UInt8)) : Prop where
  k32 : ∀ kb ∈ ks, kb.length = 32
  at' : 0 < ks.length → ∃ b o, ao = some ⟨b, o, none⟩ ∧ ∀ k (h : k < ks.length), w.rangeAt b (o + k * 32) (ks[k].map u8c)
theorem KS.key {w : World} {ao : Option Addr} {ks : List (List UInt8)} (K : KS w ao ks) (i : Nat) (hi : i < ks.length) : ∃ b o KL, ao = some ⟨b, o, none⟩ ∧ ks[i].length = 32 ∧ KL = ks[i].map u8c ∧ (Try.prog.info? 36).map (·.size) = some KL.length ∧ ∀ wr, Below w.heap.size w wr → wr.rangeAt b (o + i * 32) KL := by
  obtain ⟨b, o, e, hr⟩ := K.at' (by omega)
  have h32 := K.k32 _ (List.getElem_mem hi)
  exact ⟨b, o, _, e, h32, rfl, by rw [List.length_map, h32]; exact infoKey, fun wr hb => rangeAt_below (hr i hi) hb⟩
def AddS (w : World) (z g h : Nat) (us : List Nat) (e : Ending) (w' : World) : Prop := ∃ r, e = .returned (.bool r) ∧ FilAt w' z g h us ∧ w.grownBy w' (some g)
theorem add_step (w : World) (z g h : Nat) (Z : List Nat) (ks : List (List UInt8)) (i : Nat) (hi : i < ks.length) (h32 : ks[i].length = 32) (f : FilAt w z g h (addAll h Z (ks.take i))) : Calls Try.prog 23 #[.pointer (some ⟨z, 0, none⟩), .agg (ks[i].map u8c).toArray] w (AddS w z g h (addAll h Z (ks.take (i + 1)))) := by
  refine (add_any w z g h _ f ks[i] h32).mono ?_
  rintro e w' ⟨he, hf, hg⟩
  rw [add_take h Z ks i hi] at hf
  exact ⟨_, he, hf, hg⟩
theorem popS_zero : ∀ n, popS (List.replicate n 0) = 0
  | 0 => rfl
  | n + 1 => by
    rw [List.replicate_succ, popS, popS_zero n]
    decide
theorem wpList_load_midG {ops : Array Oper} {rest : List Oper} {op : Oper} {a : Act} {w : World} {Q : Exit → Act → World → Prop} (hw : Region.wanted op (yielded ops a.tmps) = true) (ty : TypeId) (x : Operand) (ho : op.op = .load ty x)
    (b o : Nat) (hx : a.eval x = .pointer (some ⟨b, o, none⟩)) (cs : List Value) (d : TypeDesc) (hc : w.rangeAt b o cs)
    (hu : Try.prog.underlying ty = some d) (hd : d.isRow = true) (hi : (Try.prog.info? ty).map (·.size) = some cs.length)
    (h : wpList Try.prog ops Q rest (a.put op.dst (.agg cs.toArray)) w) : wpList Try.prog ops Q (op :: rest) a w :=
  wpList_step fun K hK => by
    rw [if_pos hw]
    exact wp_load_mid ty x ho b o hx cs d hc hu hd hi (hK _ _ h)
def HasS (w : World) (e : Ending) (w' : World) : Prop := e = .returned (.bool true) ∧ Below w.heap.size w w'
theorem has_step (w : World) (z g h : Nat) (ws : List Nat) (ks : List (List UInt8)) (i : Nat) (hi : i < ks.length) (h32 : ks[i].length = 32) (f : FilAt w z g h ws) (ht : ∀ kb ∈ ks, hasK ws (keyA kb) (keyB kb) h = true) : Calls Try.prog 26 #[.pointer (some ⟨z, 0, none⟩), .agg (ks[i].map u8c).toArray] w (HasS w) := by
  refine (has_any w z g h ws f ks[i] h32).mono ?_
  rintro e w' ⟨he, hb⟩
  rw [ht _ (List.getElem_mem hi)] at he
  exact ⟨he, hb⟩
theorem never_bits (h n : Nat) (Z U1 V1 U V X Y : List Nat) (k1 k2 k3 : List (List UInt8)) (hZ : Z.length = n) (hn : 1 ≤ n) (hU1 : U1 = addAll h Z k1) (hV1 : V1 = addAll h Z k2) (hU : U = addAll h U1 k3.reverse) (hV : V = addAll h V1 k3) (hX : X = List.zipWith (fun x y => x &&& y) V U) (hY : Y = List.zipWith (fun x y => x ||| y) V U) :
    (∀ kb ∈ k1, hasK U (keyA kb) (keyB kb) h = true) ∧ (∀ kb ∈ k1, hasK Y (keyA kb) (keyB kb) h = true) ∧ (∀ kb ∈ k2, hasK Y (keyA kb) (keyB kb) h = true) ∧ (∀ kb ∈ k3, hasK X (keyA kb) (keyB kb) h = true) ∧ (∀ kb ∈ k3, hasK Y (keyA kb) (keyB kb) h = true) ∧ (1 ≤ h → (k1 ≠ [] ∨ k2 ≠ [] ∨ k3 ≠ []) → 1 ≤ popS Y) := by
  have lU1 : U1.length = n := by rw [hU1, addAll_len, hZ]
  have lV1 : V1.length = n := by rw [hV1, addAll_len, hZ]
  have lU : U.length = n := by rw [hU, addAll_len, lU1]
  have lV : V.length = n := by rw [hV, addAll_len, lV1]
  have lX : X.length = n := by rw [hX, List.length_zipWith]; omega
  have lY : Y.length = n := by rw [hY, List.length_zipWith]; omega
  have bU1 : ∀ q, Plc h n k1 q → hsB U q = true := fun q hq => by
    rw [hU, hsB_addAll h q _ _ (by omega), hU1, hsB_addAll h q _ _ (by omega), hZ]
    exact .inl (.inr hq)
  have bU3 : ∀ q, Plc h n k3 q → hsB U q = true := fun q ⟨kb, a, b⟩ => by
    rw [hU, hsB_addAll h q _ _ (by omega), lU1]
    exact .inr ⟨kb, List.mem_reverse.2 a, b⟩
  have bV2 : ∀ q, Plc h n k2 q → hsB V q = true := fun q hq => by
    rw [hV, hsB_addAll h q _ _ (by omega), hV1, hsB_addAll h q _ _ (by omega), hZ]
    exact .inl (.inr hq)
  have bV3 : ∀ q, Plc h n k3 q → hsB V q = true := fun q hq => by
    rw [hV, hsB_addAll h q _ _ (by omega), lV1]
    exact .inr hq
  have bX : ∀ q, hsB X q = (hsB V q && hsB U q) := fun q => by rw [hX]; exact hsB_and V U (by omega) q
  have bY : ∀ q, hsB Y q = (hsB V q || hsB U q) := fun q => by rw [hY]; exact hsB_or V U (by omega) q
  have y1 : ∀ q, Plc h n k1 q → hsB Y q = true := fun q hq => by rw [bY, bU1 q hq, Bool.or_true]
  have y2 : ∀ q, Plc h n k2 q → hsB Y q = true := fun q hq => by rw [bY, bV2 q hq, Bool.true_or]
  have y3 : ∀ q, Plc h n k3 q → hsB Y q = true := fun q hq => by rw [bY, bV3 q hq, Bool.true_or]
  have go : ∀ (ws : List Nat) (ks : List (List UInt8)), ws.length = n → (∀ q, Plc h n ks q → hsB ws q = true) → ∀ kb ∈ ks, hasK ws (keyA kb) (keyB kb) h = true := fun ws ks hl hq kb hk =>
    (hasK_iff ws _ _ h).2 fun i hi => hq _ ⟨kb, hk, i, hi, by rw [hl]⟩
  refine ⟨go U k1 lU bU1, go Y k1 lY y1, go Y k2 lY y2, go X k3 lX (fun q hq => by rw [bX, bV3 q hq, bU3 q hq]; rfl), go Y k3 lY y3, fun hh hk => ?_⟩
  rcases hk with hk | hk | hk
  · obtain ⟨q, hq⟩ := plc_some h n hh k1 hk
    exact popS_pos Y q (y1 q hq)
  · obtain ⟨q, hq⟩ := plc_some h n hh k2 hk
    exact popS_pos Y q (y2 q hq)
  · obtain ⟨q, hq⟩ := plc_some h n hh k3 hk
    exact popS_pos Y q (y3 q hq)
set_option maxRecDepth 20000 in
set_option maxHeartbeats 16000000 in
theorem never_law (w : World) (B H : Int) (a1 a2 a3 : Option Addr) (c1 c2 c3 : Nat) (k1 k2 k3 : List (List UInt8)) (K1 : KS w a1 k1) (K2 : KS w a2 k2) (K3 : KS w a3 k3) (l1 : k1.length ≤ 140737488355000) (l2 : k2.length ≤ 140737488355000) (l3 : k3.length ≤ 140737488355000) : Calls Try.prog 8 #[.agg #[.int .i64 B, .int .i64 H, .slice a1 k1.length c1, .slice a2 k2.length c2, .slice a3 k3.length c3]] w (TruC w) := by
  have HK1 := hide K1
  have HK2 := hide K2
  have HK3 := hide K3
  clear K1 K2 K3
  obtain ⟨n1, hn1⟩ : ∃ n, n = k1.length := ⟨_, rfl⟩
  obtain ⟨n2, hn2⟩ : ∃ n, n = k2.length := ⟨_, rfl⟩
  obtain ⟨n3, hn3⟩ : ∃ n, n = k3.length := ⟨_, rfl⟩
  rw [← hn1, ← hn2, ← hn3]
  rw [← hn1] at l1
  rw [← hn2] at l2
  rw [← hn3] at l3
  have HN1 := hide hn1
  have HN2 := hide hn2
  have HN3 := hide hn3
  clear hn1 hn2 hn3
  obtain ⟨W1, hW1⟩ : ∃ W1, W1 = w.alloc (.cells #[.int .i64 B, .int .i64 H, .slice a1 n1 c1, .slice a2 n2 c2, .slice a3 n3 c3] 57) := ⟨_, rfl⟩
  have hb1 : Below w.heap.size w W1 := by rw [hW1]; exact (Below.refl _ _).alloc (Nat.le_refl _) _
  have HB1 := hide hb1
  have CNo := hide (fun W (h : ¬ NewOk B H) => new_out W B H h)
  have CM := hide (fun W => may_any W B H)
  clear hb1
  go_enter Try.func8, Try.ntmps8
  by_cases hroom : (16384 : Int) < B
  · go_wp2
    go_ret
    refine ⟨rfl, ?_⟩
    rw [← hW1]
    exact HB1.out
  by_cases hok : NewOk B H
  · obtain ⟨n, hn⟩ : ∃ n : Nat, B = ((64 * n : Nat) : Int) := ⟨(B / 64).toNat, by unfold NewOk at hok; omega⟩
    obtain ⟨h, hh⟩ : ∃ h : Nat, H = (h : Int) := ⟨H.toNat, by unfold NewOk at hok; omega⟩
    have hnb : 1 ≤ n ∧ n ≤ 256 := by unfold NewOk at hok; omega
    have hhb : 1 ≤ h ∧ h ≤ 16 := by unfold NewOk at hok; omega
    have CI := hide (fun W => new_in W (64 * n) n h rfl ⟨hnb.1, by omega⟩ hhb)
    have HOk := hide hok
    obtain ⟨b0, hb0⟩ : ∃ b, b = 64 * n := ⟨_, rfl⟩
    rw [← hb0] at CI hn
    subst hn
    subst hh
    have hb0h := hide hb0
    clear CNo hok hb0
    go_wp2_with fail
    refine (CI.out _).mono ?_
    rintro e w2 ⟨rfl, hf2, hb2, hs2⟩
    rw [← hW1] at hf2 hb2 hs2 ⊢
    obtain ⟨zf, hzf⟩ : ∃ z, z = W1.heap.size + 1 := ⟨_, rfl⟩
    obtain ⟨gf, hgf⟩ : ∃ z, z = W1.heap.size := ⟨_, rfl⟩
    rw [← hzf, ← hgf] at hf2
    rw [← hzf]
    have hlf : w.heap.size ≤ gf ∧ gf < w2.heap.size := ⟨by have := HB1.out.size; omega, by omega⟩
    have HF2 := hide hf2
    have HB2 := hide (bstep HB1.out hb2)
    clear hb2 HB1 hW1 hf2 hzf hgf hs2
    go_wp2_with fail
    refine (CI.out _).mono ?_
    rintro e w3 ⟨rfl, hf3, hb3, hs3⟩
    obtain ⟨zg, hzg⟩ : ∃ z, z = w2.heap.size + 1 := ⟨_, rfl⟩
    obtain ⟨gg, hgg⟩ : ∃ z, z = w2.heap.size := ⟨_, rfl⟩
    rw [← hzg, ← hgg] at hf3
    rw [← hzg]
    have hlg : w.heap.size ≤ gg ∧ gf < gg ∧ gg < w3.heap.size := ⟨by have := HB2.out.size; omega, by omega, by omega⟩
    have HF3 := hide (And.intro (HF2.out.below hb3) hf3)
    have HB3 := hide (bstep HB2.out hb3)
    clear hb3 HB2 HF2 hf3 hzg hgg hs3
    go_wp2_with fail
    refine (CI.out _).mono ?_
    rintro e w4 ⟨rfl, hf4, hb4, hs4⟩
    obtain ⟨zm, hzm⟩ : ∃ z, z = w3.heap.size + 1 := ⟨_, rfl⟩
    obtain ⟨gm, hgm⟩ : ∃ z, z = w3.heap.size := ⟨_, rfl⟩
    rw [← hzm, ← hgm] at hf4
    rw [← hzm]
    obtain ⟨Z, hZ⟩ : ∃ Z, Z = List.replicate n 0 := ⟨_, rfl⟩
    rw [← hZ] at HF3 hf4
    have hZl : Z.length = n := by rw [hZ, List.length_replicate]
    have HS4 : Hid (N3 w w4 zf gf zg gg zm gm h n Z Z Z) := hide ⟨HF3.out.1.below hb4, HF3.out.2.below hb4, hf4, by omega, by omega, by omega, hlf.1, hlg.1, by have := HB3.out.size; omega, hZl, hZl, hZl, bstep HB3.out hb4⟩
    have CO := hide (ones_any w4 zf gf h Z HS4.out.f)
    rw [hZ, popS_zero] at CO
    have HZ := hide hZ
    clear hb4 HB3 HF3 hf4 hzm hgm hs4 hlf hlg hZ CI hZl
    go_wp2_with fail
    refine (CM.out _).mono ?_
    rintro e w5 ⟨r, rfl, hr, rfl⟩
    have hr2 : r = true := hr.2 HOk.out
    subst hr2
    clear hr CM
    go_wp2_with fail
    refine CO.out.mono ?_
    rintro e w6 ⟨rfl, hw6⟩
    subst hw6
    clear CO
    go_wp2
    go_loopw [14] (fun s wr => ∃ i : Nat, s = .int .i64 i ∧ i ≤ n1 ∧ N3 w wr zf gf zg gg zm gm h n (addAll h Z (k1.take i)) Z Z) (fun s _ => n1 - (intOf s).toNat)
    case atStart => exact ⟨0, rfl, by omega, HS4.out⟩
    case round =>
      obtain ⟨i, rfl, hi, hS⟩ := hrel
      have HS := hide hS
      clear hS HS4
      by_cases hlt : i < n1
      · have hii : (i : Int) < n1 := by omega
        have hiu : i < k1.length := by have := HN1.out; omega
        obtain ⟨b, o, KL, rfl, h32, hKL, hinfo, hrg⟩ := HK1.out.key i hiu
        have HInfo := hide hinfo
        have HRg := hide (hrg wr HS.out.bel)
        have CA : Hid (Calls Try.prog 23 #[.pointer (some ⟨zf, 0, none⟩), .agg KL.toArray] wr (AddS wr zf gf h (addAll h Z (k1.take (i + 1))))) := hide (by rw [hKL]; exact add_step wr zf gf h Z k1 i hiu h32 HS.out.f)
        have HX : Hid ((addAll h Z (k1.take (i + 1))).length = n) := hide (by rw [addAll_len]; exact HS.out.nv)
        clear hKL h32 hinfo hrg hiu
        go_wp2_with (first | fail | ((with_reducible refine wpList_load_mid ?_ 36 (.tmp 94) ?_ b (o + i * 32) ?_ KL _ HRg.out Try.underlying36 ?_ HInfo.out ?_); rfl; rfl; rfl; rfl))
        refine CA.out.mono ?_
        rintro e w7 ⟨r, rfl, hf7, hg7⟩
        have HS7 := hide (HS.out.setF hf7 HX.out hg7)
        clear hf7 hg7 CA HRg HX
        go_wp2
        exact ⟨⟨i + 1, by go_num, by omega, HS7.out⟩, by simp [intOf]; omega⟩
      · have hii : ¬ (i : Int) < n1 := by omega
        obtain ⟨U1, hU1⟩ : ∃ U, U = addAll h Z k1 := ⟨_, rfl⟩
        have HS8 : Hid (N3 w wr zf gf zg gg zm gm h n U1 (addAll h Z (k2.take 0)) (addAll h Z (k2.take 0))) := hide (by
          have h1 := HS.out
          rw [show i = k1.length by have := HN1.out; omega, List.take_length, ← hU1] at h1
          exact h1)
        have HU1 := hide hU1
        obtain ⟨wp, hwp⟩ : ∃ w0, w0 = wr := ⟨_, rfl⟩
        rw [← hwp] at HS8 ⊢
        clear hwp hU1 HS
        go_wp2
        go_loopw [15] (fun s wr => ∃ i : Nat, s = .int .i64 i ∧ i ≤ n2 ∧ N3 w wr zf gf zg gg zm gm h n U1 (addAll h Z (k2.take i)) (addAll h Z (k2.take i))) (fun s _ => n2 - (intOf s).toNat)
        case atStart => exact ⟨0, rfl, by omega, HS8.out⟩
        case round =>
          obtain ⟨i, rfl, hi, hS⟩ := hrel
          have HS := hide hS
          clear hS HS8
          by_cases hlt : i < n2
          · have hii : (i : Int) < n2 := by omega
            have hiu : i < k2.length := by have := HN2.out; omega
            obtain ⟨b, o, KL, rfl, h32, hKL, hinfo, hrg⟩ := HK2.out.key i hiu
            have HInfo := hide hinfo
            have HRg := hide (hrg wr HS.out.bel)
            have HRr := hide hrg
            have CA : Hid (Calls Try.prog 23 #[.pointer (some ⟨zg, 0, none⟩), .agg KL.toArray] wr (AddS wr zg gg h (addAll h Z (k2.take (i + 1))))) := hide (by rw [hKL]; exact add_step wr zg gg h Z k2 i hiu h32 HS.out.g)
            have CB : Hid (∀ W, FilAt W zm gm h (addAll h Z (k2.take i)) → Calls Try.prog 23 #[.pointer (some ⟨zm, 0, none⟩), .agg KL.toArray] W (AddS W zm gm h (addAll h Z (k2.take (i + 1))))) := hide (fun W hW => by rw [hKL]; exact add_step W zm gm h Z k2 i hiu h32 hW)
            have HX : Hid ((addAll h Z (k2.take (i + 1))).length = n) := hide (by
              have := HS.out.nv
              rw [addAll_len] at this ⊢
              exact this)
            clear hKL h32 hinfo hrg hiu
            go_wp2_with (first | fail | ((with_reducible refine wpList_load_mid ?_ 36 (.tmp 106) ?_ b (o + i * 32) ?_ KL _ HRg.out Try.underlying36 ?_ HInfo.out ?_); rfl; rfl; rfl; rfl))
            refine CA.out.mono ?_
            rintro e w7 ⟨r, rfl, hf7, hg7⟩
            have HS7 := hide (HS.out.setG hf7 HX.out hg7)
            have HRg7 := hide (HRr.out w7 HS7.out.bel)
            have CB7 := hide (CB.out w7 HS7.out.m)
            clear hf7 hg7 CA HRg HS CB HRr
            go_wp2_with (first | fail | ((with_reducible refine wpList_load_mid ?_ 36 (.tmp 112) ?_ b (o + i * 32) ?_ KL _ HRg7.out Try.underlying36 ?_ HInfo.out ?_); rfl; rfl; rfl; rfl))
            refine CB7.out.mono ?_
            rintro e w8 ⟨r, rfl, hf8, hg8⟩
            have HS9 := hide (HS7.out.setM hf8 HX.out hg8)
            clear hf8 hg8 CB7 HRg7 HX HS7
            go_wp2
            exact ⟨⟨i + 1, by go_num, by omega, HS9.out⟩, by simp [intOf]; omega⟩
          · have hii : ¬ (i : Int) < n2 := by omega
            obtain ⟨V1, hV1⟩ : ∃ U, U = addAll h Z k2 := ⟨_, rfl⟩
            have HS8 : Hid (N3 w wr zf gf zg gg zm gm h n (addAll h U1 (k3.reverse.take 0)) (addAll h V1 (k3.take 0)) (addAll h V1 (k3.reverse.take 0))) := hide (by
              have h1 := HS.out
              rw [show i = k2.length by have := HN2.out; omega, List.take_length, ← hV1] at h1
              exact h1)
            have HV1 := hide hV1
            obtain ⟨wp, hwp⟩ : ∃ w0, w0 = wr := ⟨_, rfl⟩
            rw [← hwp] at HS8 ⊢
            clear hwp hV1 HS
            go_wp2
            go_loopw [16] (fun s wr => ∃ (i : Nat) (jj : Int), s = .int .i64 jj ∧ Hid (jj = (n3 : Int) - 1 - i) ∧ i ≤ n3 ∧ -1 ≤ jj ∧ jj < n3 ∧ N3 w wr zf gf zg gg zm gm h n (addAll h U1 (k3.reverse.take i)) (addAll h V1 (k3.take i)) (addAll h V1 (k3.reverse.take i))) (fun s _ => (intOf s + 1).toNat)
            case atStart => exact ⟨0, _, rfl, hide (by omega), by omega, by omega, by omega, HS8.out⟩
            case round =>
              obtain ⟨i, jj, rfl, HJ, hi, hj1, hj2, hS⟩ := hrel
              have HS := hide hS
              clear hS HS8
              by_cases hlt : 0 ≤ jj
              · obtain ⟨j, rfl⟩ : ∃ j : Nat, jj = (j : Int) := ⟨jj.toNat, by omega⟩
                have hj3 : (j : Int) < n3 := by omega
                have hlt3 : i < n3 := by have := HJ.out; omega
                have hii : (i : Int) < n3 := by omega
                have hix : (n3 : Int) - 1 - (j : Int) = (i : Int) := by have := HJ.out; omega
                have hiu : i < k3.length := by have := HN3.out; omega
                have hju : j < k3.length := by have := HN3.out; omega
                have hir : i < k3.reverse.length := by rw [List.length_reverse]; exact hiu
                have hkr : k3.reverse[i] = k3[j] := by
                  rw [List.getElem_reverse]
                  congr 1
                  have := HN3.out
                  have := HJ.out
                  omega
                obtain ⟨b, o, KL, rfl, h32, hKL, hinfo, hrg⟩ := HK3.out.key j hju
                obtain ⟨b', o', KI, hbo, h32i, hKI, hinfoi, hrgi⟩ := HK3.out.key i hiu
                cases hbo
                have HInfo := hide hinfo
                have HInfoI := hide hinfoi
                have HRg := hide (hrg wr HS.out.bel)
                have HRr := hide hrg
                have HRi := hide hrgi
                rw [← hkr] at h32 hKL
                have CA : Hid (Calls Try.prog 23 #[.pointer (some ⟨zf, 0, none⟩), .agg KL.toArray] wr (AddS wr zf gf h (addAll h U1 (k3.reverse.take (i + 1))))) := hide (by rw [hKL]; exact add_step wr zf gf h U1 k3.reverse i hir h32 HS.out.f)
                have CB : Hid (∀ W, FilAt W zg gg h (addAll h V1 (k3.take i)) → Calls Try.prog 23 #[.pointer (some ⟨zg, 0, none⟩), .agg KI.toArray] W (AddS W zg gg h (addAll h V1 (k3.take (i + 1))))) := hide (fun W hW => by rw [hKI]; exact add_step W zg gg h V1 k3 i hiu h32i hW)
                have CC : Hid (∀ W, FilAt W zm gm h (addAll h V1 (k3.reverse.take i)) → Calls Try.prog 23 #[.pointer (some ⟨zm, 0, none⟩), .agg KL.toArray] W (AddS W zm gm h (addAll h V1 (k3.reverse.take (i + 1))))) := hide (fun W hW => by rw [hKL]; exact add_step W zm gm h V1 k3.reverse i hir h32 hW)
                have HX : Hid ((addAll h U1 (k3.reverse.take (i + 1))).length = n ∧ (addAll h V1 (k3.take (i + 1))).length = n ∧ (addAll h V1 (k3.reverse.take (i + 1))).length = n) := hide (by
                  have h1 := HS.out.nu
                  have h2 := HS.out.nv
                  rw [addAll_len] at h1 h2
                  rw [addAll_len, addAll_len, addAll_len]
                  exact ⟨h1, h2, h2⟩)
                clear hKL h32 hinfo hrg hiu hju hir hkr hKI h32i hinfoi hrgi
                go_wp2_with (first | fail | ((with_reducible refine wpList_load_mid ?_ 36 (.tmp 125) ?_ b (o + j * 32) ?_ KL _ HRg.out Try.underlying36 ?_ HInfo.out ?_); rfl; rfl; rfl; rfl))
                refine CA.out.mono ?_
                rintro e w7 ⟨r, rfl, hf7, hg7⟩
                have HS7 := hide (HS.out.setF hf7 HX.out.1 hg7)
                have HRi7 := hide (HRi.out w7 HS7.out.bel)
                have CB7 := hide (CB.out w7 HS7.out.g)
                clear hf7 hg7 CA HRg HS CB HRi
                go_wp2_with (first | fail | ((with_reducible refine wpList_load_mid ?_ 36 (.tmp 135) ?_ b (o + i * 32) ?_ KI _ HRi7.out Try.underlying36 ?_ HInfoI.out ?_); rfl; rfl; rfl; rfl))
                refine CB7.out.mono ?_
                rintro e w8 ⟨r, rfl, hf8, hg8⟩
                have HS9 := hide (HS7.out.setG hf8 HX.out.2.1 hg8)
                have HRg9 := hide (HRr.out w8 HS9.out.bel)
                have CC9 := hide (CC.out w8 HS9.out.m)
                clear hf8 hg8 CB7 HRi7 HS7 CC HRr
                go_wp2_with (first | fail | ((with_reducible refine wpList_load_mid ?_ 36 (.tmp 141) ?_ b (o + j * 32) ?_ KL _ HRg9.out Try.underlying36 ?_ HInfo.out ?_); rfl; rfl; rfl; rfl))
                refine CC9.out.mono ?_
                rintro e w9 ⟨r, rfl, hf9, hg9⟩
                have HS10 := hide (HS9.out.setM hf9 HX.out.2.2 hg9)
                clear hf9 hg9 CC9 HRg9 HS9 HX
                go_wp2
                exact ⟨⟨i + 1, (j : Int) - 1, by go_num, hide (by have := HJ.out; omega), by omega, by omega, by omega, HS10.out⟩, by simp [intOf]⟩
              · have hjn : ¬ (0 : Int) ≤ jj := hlt
                have hin : i = k3.length := by have := HN3.out; have := HJ.out; omega
                obtain ⟨U, hU⟩ : ∃ U, U = addAll h U1 k3.reverse := ⟨_, rfl⟩
                obtain ⟨V, hV⟩ : ∃ U, U = addAll h V1 k3 := ⟨_, rfl⟩
                have HS8 : Hid (N3 w wr zf gf zg gg zm gm h n U V V) := hide (by
                  have h1 := HS.out
                  rw [hin, List.take_length, ← List.length_reverse, List.take_length, ← hU, ← hV] at h1
                  have hp : addAll h V1 k3.reverse = V := by
                    rw [hV]
                    refine addAll_perm h k3.reverse k3 V1 ?_ (fun kb => List.mem_reverse) h1.m.ok (by rw [← hV]; exact h1.g.ok)
                    have := h1.g.hn.1
                    rw [hV, addAll_len] at this
                    exact this
                  rw [hp] at h1
                  exact h1)
                have HU := hide hU
                have HV := hide hV
                obtain ⟨wp, hwp⟩ : ∃ w0, w0 = wr := ⟨_, rfl⟩
                rw [← hwp] at HS8 ⊢
                obtain ⟨X, hX⟩ : ∃ X, X = List.zipWith (fun x y => x &&& y) V U := ⟨_, rfl⟩
                obtain ⟨Y, hY⟩ : ∃ X, X = List.zipWith (fun x y => x ||| y) V U := ⟨_, rfl⟩
                have hlX : X.length = n ∧ Y.length = n := by
                  have h1 := HS8.out.nu
                  have h2 := HS8.out.nv
                  rw [hX, hY, List.length_zipWith, List.length_zipWith]
                  omega
                have hgl : gm < wp.heap.size ∧ gg < wp.heap.size := ⟨HS8.out.m.gb.lt, HS8.out.g.gb.lt⟩
                have C1 : Hid (Calls Try.prog 19 #[.pointer (some ⟨zg, 0, none⟩)] wp.drew (BytesC wp.drew (bytesF h V))) := hide (fbytes_any wp.drew zg gg h V (HS8.out.g.below (below_drewN' (Below.refl _ _) 1)))
                have C2 : Hid (∀ w1, Below wp.heap.size wp w1 → Calls Try.prog 19 #[.pointer (some ⟨zm, 0, none⟩)] w1 (BytesC w1 (bytesF h V))) := hide (fun w1 hb => fbytes_any w1 zm gm h V (HS8.out.m.below hb))
                have C3 : Hid (∀ w2, Below wp.heap.size wp w2 → Calls Try.prog 24 #[.pointer (some ⟨zm, 0, none⟩), .pointer (some ⟨zf, 0, none⟩)] w2 fun e w' => e = .returned (.int .i64 0) ∧ w2.grownBy w' (some gm) ∧ N3 w w' zf gf zg gg zm gm h n U V X) := hide (fun w2 hb => by
                  have h2 := HS8.out.below hb
                  refine (meet_any w2 zm gm h zf gf V U h2.m h2.f (by rw [h2.nv, h2.nu]) h2.fm.symm).mono ?_
                  rintro e w' ⟨he, hf, hg⟩
                  rw [← hX] at hf
                  exact ⟨he, hg, h2.setM hf hlX.1 hg⟩)
                have C4 : Hid (∀ w3, N3 w w3 zf gf zg gg zm gm h n U V X → Calls Try.prog 25 #[.pointer (some ⟨zg, 0, none⟩), .pointer (some ⟨zf, 0, none⟩)] w3 fun e w' => e = .returned (.int .i64 0) ∧ w3.grownBy w' (some gg) ∧ N3 w w' zf gf zg gg zm gm h n U Y X) := hide (fun w3 h2 => by
                  refine (join_any w3 zg gg h zf gf V U h2.g h2.f (by rw [h2.nv, h2.nu]) h2.fg.symm).mono ?_
                  rintro e w' ⟨he, hf, hg⟩
                  rw [← hY] at hf
                  exact ⟨he, hg, h2.setG hf hlX.2 hg⟩)
                have HXY := hide (And.intro hX hY)
                clear hwp hV hU HS hin hX hY hlX
                go_wp2_with fail
                refine fn_walk _ (fun _ _ _ _ _ h => h) wp zf zg zm gm gg (fun W => N3 w W zf gf zg gg zm gm h n U V X) (fun W => N3 w W zf gf zg gg zm gm h n U Y X) hgl.1 hgl.2 (bytesF h V) C1.out C2.out C3.out C4.out _ (Nat.lt_of_sub_pos (by exact Nat.succ_pos _)) rfl rfl rfl ?_
                intro v1 v2 w4 hJ4
                have HS9 := hide hJ4
                clear hJ4 C1 C2 C3 C4 HS8
                simp only [Act.put, List.setIfInBounds_toArray, List.set_cons_zero, List.set_cons_succ]
                have HOB := hide (open_bytes h Y hhb HS9.out.g.hn HS9.out.g.ok)
                have CB := hide (fbytes_any w4 zg gg h Y HS9.out.g)
                have hbl := bytesF_len h Y
                have hYb : 3 + 8 * Y.length ≤ 140737488355000 := by have := HS9.out.g.hn; omega
                obtain ⟨bs, hbs⟩ : ∃ bs, bs = bytesF h Y := ⟨_, rfl⟩
                rw [← hbs] at CB HOB hbl
                have CO : Hid (∀ W v, RdA W v bs → Calls Try.prog 17 #[v] W (OpenFC W bs)) := hide (fun W v hv => fopen_any W v bs hv (by omega))
                clear hbs hbl hYb
                go_wp2_with fail
                refine CB.out.mono ?_
                rintro e w5 ⟨vb, rfl, ho5, hb5⟩
                have HR5 : Hid (RdA w5 vb bs) := hide (.inl (Rd_owned ho5))
                have HS5 := hide (HS9.out.below hb5)
                clear ho5 hb5 CB HS9
                go_wp2_with fail
                refine (CO.out _ _ HR5.out).mono ?_
                rintro e w6 (⟨hno, -⟩ | ⟨-, za, ga, rfl, hfa, hza, hga, hb6⟩)
                · exact absurd HOB.out.1 hno
                rw [HOB.out.2.1, HOB.out.2.2] at hfa
                have HSa := hide (And.intro (HS5.out.below hb6) hfa)
                have HBits := hide (never_bits h n Z U1 V1 U V X Y k1 k2 k3 (by rw [HZ.out, List.length_replicate]) hnb.1 HU1.out HV1.out HU.out HV.out HXY.out.1 HXY.out.2)
                clear hfa hza hga hb6 HS5 CO HR5 HOB HU1 HV1 HU HV HXY HZ
                have e1 := eqSomeP za
                go_wp2_with (first | simp only [e1])
                clear e1
                go_loopw [19] (fun s wr => ∃ i : Nat, s = .int .i64 i ∧ i ≤ n1 ∧ N3 w wr zf gf zg gg zm gm h n U Y X ∧ FilAt wr za ga h Y) (fun s _ => n1 - (intOf s).toNat)
                case atStart => exact ⟨0, rfl, by omega, HSa.out.1, HSa.out.2⟩
                case round =>
                  obtain ⟨i, rfl, hi, hS⟩ := hrel
                  have HS := hide hS
                  clear hS HSa
                  by_cases hlt : i < n1
                  · have hii : (i : Int) < n1 := by omega
                    have hiu : i < k1.length := by have := HN1.out; omega
                    obtain ⟨b, o, KL, rfl, h32, hKL, hinfo, hrg⟩ := HK1.out.key i hiu
                    have HInfo := hide hinfo
                    have HLd := hide hrg
                    have CA0 : Hid (∀ W, FilAt W zf gf h U → Calls Try.prog 26 #[.pointer (some ⟨zf, 0, none⟩), .agg KL.toArray] W (HasS W)) := hide (fun W hW => by rw [hKL]; exact has_step W zf gf h U k1 i hiu h32 hW HBits.out.1)
                    have CA1 : Hid (∀ W, FilAt W zg gg h Y → Calls Try.prog 26 #[.pointer (some ⟨zg, 0, none⟩), .agg KL.toArray] W (HasS W)) := hide (fun W hW => by rw [hKL]; exact has_step W zg gg h Y k1 i hiu h32 hW HBits.out.2.1)
                    have CA2 : Hid (∀ W, FilAt W za ga h Y → Calls Try.prog 26 #[.pointer (some ⟨za, 0, none⟩), .agg KL.toArray] W (HasS W)) := hide (fun W hW => by rw [hKL]; exact has_step W za ga h Y k1 i hiu h32 hW HBits.out.2.1)
                    clear hKL h32 hinfo hrg hiu
                    have HLd0 := hide (HLd.out wr HS.out.1.bel)
                    go_wp2_with (first | fail | ((with_reducible refine wpList_load_mid ?_ 36 (.tmp 184) ?_ b (o + i * 32) ?_ KL _ HLd0.out Try.underlying36 ?_ HInfo.out ?_); rfl; rfl; rfl; rfl))
                    refine (CA0.out _ HS.out.1.f).mono ?_
                    rintro e x0 ⟨rfl, hx0⟩
                    have HS0 := hide (And.intro (HS.out.1.below hx0) (HS.out.2.below hx0))
                    have HLd1 := hide (HLd.out x0 HS0.out.1.bel)
                    clear hx0 CA0 HLd0 HS
                    go_wp2_with (first | fail | ((with_reducible refine wpList_load_midG ?_ 36 (.tmp 192) ?_ b (o + i * 32) ?_ KL _ HLd1.out Try.underlying36 ?_ HInfo.out ?_); rfl; rfl; rfl; rfl))
                    refine (CA1.out _ HS0.out.1.g).mono ?_
                    rintro e x1 ⟨rfl, hx1⟩
                    have HS1 := hide (And.intro (HS0.out.1.below hx1) (HS0.out.2.below hx1))
                    have HLd2 := hide (HLd.out x1 HS1.out.1.bel)
                    clear hx1 CA1 HLd1 HS0
                    go_wp2_with (first | fail | ((with_reducible refine wpList_load_midG ?_ 36 (.tmp 201) ?_ b (o + i * 32) ?_ KL _ HLd2.out Try.underlying36 ?_ HInfo.out ?_); rfl; rfl; rfl; rfl))
                    refine (CA2.out _ HS1.out.2).mono ?_
                    rintro e x2 ⟨rfl, hx2⟩
                    have HS2 := hide (And.intro (HS1.out.1.below hx2) (HS1.out.2.below hx2))
                    clear hx2 CA2 HLd2 HS1
                    go_wp2
                    exact ⟨⟨i + 1, by go_num, by omega, HS2.out.1, HS2.out.2⟩, by simp [intOf]; omega⟩
                  · have hii : ¬ (i : Int) < n1 := by omega
                    obtain ⟨wp, hwp⟩ : ∃ w0, w0 = wr := ⟨_, rfl⟩
                    rw [← hwp] at HS ⊢
                    have HSb := hide HS.out
                    clear hwp HS
                    go_wp2
                    go_loopw [20] (fun s wr => ∃ i : Nat, s = .int .i64 i ∧ i ≤ n2 ∧ N3 w wr zf gf zg gg zm gm h n U Y X ∧ FilAt wr za ga h Y) (fun s _ => n2 - (intOf s).toNat)
                    case atStart => exact ⟨0, rfl, by omega, HSb.out.1, HSb.out.2⟩
                    case round =>
                      obtain ⟨i, rfl, hi, hS⟩ := hrel
                      have HS := hide hS
                      clear hS HSb
                      by_cases hlt : i < n2
                      · have hii : (i : Int) < n2 := by omega
                        have hiu : i < k2.length := by have := HN2.out; omega
                        obtain ⟨b, o, KL, rfl, h32, hKL, hinfo, hrg⟩ := HK2.out.key i hiu
                        have HInfo := hide hinfo
                        have HLd := hide hrg
                        have CA0 : Hid (∀ W, FilAt W zg gg h Y → Calls Try.prog 26 #[.pointer (some ⟨zg, 0, none⟩), .agg KL.toArray] W (HasS W)) := hide (fun W hW => by rw [hKL]; exact has_step W zg gg h Y k2 i hiu h32 hW HBits.out.2.2.1)
                        have CA1 : Hid (∀ W, FilAt W za ga h Y → Calls Try.prog 26 #[.pointer (some ⟨za, 0, none⟩), .agg KL.toArray] W (HasS W)) := hide (fun W hW => by rw [hKL]; exact has_step W za ga h Y k2 i hiu h32 hW HBits.out.2.2.1)
                        clear hKL h32 hinfo hrg hiu
                        have HLd0 := hide (HLd.out wr HS.out.1.bel)
                        go_wp2_with (first | fail | ((with_reducible refine wpList_load_mid ?_ 36 (.tmp 215) ?_ b (o + i * 32) ?_ KL _ HLd0.out Try.underlying36 ?_ HInfo.out ?_); rfl; rfl; rfl; rfl))
                        refine (CA0.out _ HS.out.1.g).mono ?_
                        rintro e x0 ⟨rfl, hx0⟩
                        have HS0 := hide (And.intro (HS.out.1.below hx0) (HS.out.2.below hx0))
                        have HLd1 := hide (HLd.out x0 HS0.out.1.bel)
                        clear hx0 CA0 HLd0 HS
                        go_wp2_with (first | fail | ((with_reducible refine wpList_load_midG ?_ 36 (.tmp 223) ?_ b (o + i * 32) ?_ KL _ HLd1.out Try.underlying36 ?_ HInfo.out ?_); rfl; rfl; rfl; rfl))
                        refine (CA1.out _ HS0.out.2).mono ?_
                        rintro e x1 ⟨rfl, hx1⟩
                        have HS1 := hide (And.intro (HS0.out.1.below hx1) (HS0.out.2.below hx1))
                        clear hx1 CA1 HLd1 HS0
                        go_wp2
                        exact ⟨⟨i + 1, by go_num, by omega, HS1.out.1, HS1.out.2⟩, by simp [intOf]; omega⟩
                      · have hii : ¬ (i : Int) < n2 := by omega
                        obtain ⟨wp, hwp⟩ : ∃ w0, w0 = wr := ⟨_, rfl⟩
                        rw [← hwp] at HS ⊢
                        have HSc := hide HS.out
                        clear hwp HS
                        go_wp2
                        go_loopw [21] (fun s wr => ∃ i : Nat, s = .int .i64 i ∧ i ≤ n3 ∧ N3 w wr zf gf zg gg zm gm h n U Y X ∧ FilAt wr za ga h Y) (fun s _ => n3 - (intOf s).toNat)
                        case atStart => exact ⟨0, rfl, by omega, HSc.out.1, HSc.out.2⟩
                        case round =>
                          obtain ⟨i, rfl, hi, hS⟩ := hrel
                          have HS := hide hS
                          clear hS HSc
                          by_cases hlt : i < n3
                          · have hii : (i : Int) < n3 := by omega
                            have hiu : i < k3.length := by have := HN3.out; omega
                            obtain ⟨b, o, KL, rfl, h32, hKL, hinfo, hrg⟩ := HK3.out.key i hiu
                            have HInfo := hide hinfo
                            have HLd := hide hrg
                            have CA0 : Hid (∀ W, FilAt W zm gm h X → Calls Try.prog 26 #[.pointer (some ⟨zm, 0, none⟩), .agg KL.toArray] W (HasS W)) := hide (fun W hW => by rw [hKL]; exact has_step W zm gm h X k3 i hiu h32 hW HBits.out.2.2.2.1)
                            have CA1 : Hid (∀ W, FilAt W za ga h Y → Calls Try.prog 26 #[.pointer (some ⟨za, 0, none⟩), .agg KL.toArray] W (HasS W)) := hide (fun W hW => by rw [hKL]; exact has_step W za ga h Y k3 i hiu h32 hW HBits.out.2.2.2.2.1)
                            clear hKL h32 hinfo hrg hiu
                            have HLd0 := hide (HLd.out wr HS.out.1.bel)
                            go_wp2_with (first | fail | ((with_reducible refine wpList_load_mid ?_ 36 (.tmp 237) ?_ b (o + i * 32) ?_ KL _ HLd0.out Try.underlying36 ?_ HInfo.out ?_); rfl; rfl; rfl; rfl))
                            refine (CA0.out _ HS.out.1.m).mono ?_
                            rintro e x0 ⟨rfl, hx0⟩
                            have HS0 := hide (And.intro (HS.out.1.below hx0) (HS.out.2.below hx0))
                            have HLd1 := hide (HLd.out x0 HS0.out.1.bel)
                            clear hx0 CA0 HLd0 HS
                            go_wp2_with (first | fail | ((with_reducible refine wpList_load_midG ?_ 36 (.tmp 245) ?_ b (o + i * 32) ?_ KL _ HLd1.out Try.underlying36 ?_ HInfo.out ?_); rfl; rfl; rfl; rfl))
                            refine (CA1.out _ HS0.out.2).mono ?_
                            rintro e x1 ⟨rfl, hx1⟩
                            have HS1 := hide (And.intro (HS0.out.1.below hx1) (HS0.out.2.below hx1))
                            clear hx1 CA1 HLd1 HS0
                            go_wp2
                            exact ⟨⟨i + 1, by go_num, by omega, HS1.out.1, HS1.out.2⟩, by simp [intOf]; omega⟩
                          · have hii : ¬ (i : Int) < n3 := by omega
                            obtain ⟨wp, hwp⟩ : ∃ w0, w0 = wr := ⟨_, rfl⟩
                            rw [← hwp] at HS ⊢
                            have HSd := hide HS.out
                            clear hwp HS
                            by_cases hsum : n1 + n2 + n3 = 0
                            · obtain rfl : n1 = 0 := by omega
                              obtain rfl : n2 = 0 := by omega
                              obtain rfl : n3 = 0 := by omega
                              clear hsum
                              go_wp2
                              go_ret
                              exact ⟨rfl, HSd.out.1.bel⟩
                            · have hp1 : 1 ≤ popS Y := HBits.out.2.2.2.2.2 hhb.1 (by
                                have q1 := HN1.out
                                have q2 := HN2.out
                                have q3 := HN3.out
                                rcases Nat.eq_zero_or_pos n1 with e | e
                                · rcases Nat.eq_zero_or_pos n2 with e2 | e2
                                  · exact .inr (.inr (fun e3 => by rw [e3] at q3; simp at q3; omega))
                                  · exact .inr (.inl (fun e3 => by rw [e3] at q2; simp at q2; omega))
                                · exact .inl (fun e3 => by rw [e3] at q1; simp at q1; omega))
                              have hYl := HSd.out.1.nv
                              have hpb := popS_le Y
                              obtain ⟨t1, t2, t3⟩ := alarm_pos (popS Y) (64 * Y.length) h (by omega) (by omega) hp1 hpb hhb.1 hhb.2
                              have CO := hide (fun W hW => ones_any W za ga h Y hW)
                              have CAl := hide (fun W hW => alarm_any W za ga h Y hW)
                              have CF := hide (fun W hW => fill_any W za ga h Y hW)
                              obtain ⟨p, hp⟩ : ∃ p, p = popS Y := ⟨_, rfl⟩
                              obtain ⟨fl, hfl⟩ : ∃ p, p = fillF (popS Y) (64 * Y.length) := ⟨_, rfl⟩
                              obtain ⟨al, hal⟩ : ∃ p, p = powF ONE (fillF (popS Y) (64 * Y.length)) h := ⟨_, rfl⟩
                              rw [← hal] at CAl t1 t2
                              rw [← hfl] at CF t2 t3
                              rw [← hp] at CO hp1
                              have hpi : (0 : Int) < p := by omega
                              have hsi : ((n1 : Int) + n2 + n3 == 0) = false := by rw [beq_eq_false_iff_ne]; omega
                              have hsi2 : ¬ (n1 : Int) + n2 + n3 = 0 := by omega
                              have hone := one_lt
                              have o1 : FloatKind.f64.format.order al 0 = some .gt := order_gt (by omega) t1
                              have o2 : ∃ c, FloatKind.f64.format.order al 4607182418800017408 = some c ∧ (c = .lt ∨ c = .eq) := by
                                rcases Nat.lt_or_ge al ONE with q | q
                                · exact ⟨.lt, order_lt one_lt q, .inl rfl⟩
                                · have e : al = ONE := by omega
                                  exact ⟨.eq, by rw [e]; exact order_eq' one_lt, .inr rfl⟩
                              have o3 : ∃ c, FloatKind.f64.format.order fl al = some c ∧ (c = .gt ∨ c = .eq) := by
                                rcases Nat.lt_or_ge al fl with q | q
                                · exact ⟨.gt, order_gt (by omega) q, .inl rfl⟩
                                · have e : fl = al := by omega
                                  exact ⟨.eq, by rw [e]; exact order_eq' (by omega), .inr rfl⟩
                              clear hp hfl hal t1 t2 t3 hYl hpb hone hsum
                              obtain ⟨d2, o2, hd2⟩ := o2
                              obtain ⟨d3, o3, hd3⟩ := o3
                              rcases hd2 with rfl | rfl <;> rcases hd3 with rfl | rfl
                              all_goals
                                go_wp2_with fail
                                refine (CO.out _ HSd.out.2).mono ?_
                                rintro e y1 ⟨rfl, hy1⟩
                                subst hy1
                                go_wp2_with fail
                                refine (CAl.out _ HSd.out.2).mono ?_
                                rintro e y2 ⟨rfl, hy2⟩
                                have HSe := hide (And.intro (HSd.out.1.below hy2) (HSd.out.2.below hy2))
                                clear hy2 HSd
                                go_wp2_with fail
                                refine (CAl.out _ HSe.out.2).mono ?_
                                rintro e y3 ⟨rfl, hy3⟩
                                have HSf := hide (And.intro (HSe.out.1.below hy3) (HSe.out.2.below hy3))
                                clear hy3 HSe
                                go_wp2_with fail
                                refine (CF.out _ HSf.out.2).mono ?_
                                rintro e y4 ⟨rfl, hy4⟩
                                have HSg := hide (And.intro (HSf.out.1.below hy4) (HSf.out.2.below hy4))
                                clear hy4 HSf
                                go_wp2_with fail
                                refine (CAl.out _ HSg.out.2).mono ?_
                                rintro e y5 ⟨rfl, hy5⟩
                                have HSh := hide (HSg.out.1.below hy5)
                                clear hy5 HSg
                                go_wp2
                                go_ret
                                exact ⟨rfl, HSh.out.bel⟩
  · have CNo1 := hide (fun W => CNo.out W hok)
    have HOk := hide hok
    clear CNo hok
    go_wp2_with fail
    refine (CNo1.out _).mono ?_
    rintro e w2 ⟨rfl, hb2⟩
    rw [← hW1] at hb2
    have HB2 := hide (bstep HB1.out hb2)
    clear hb2 HB1 hW1
    go_wp2_with fail
    refine (CNo1.out _).mono ?_
    rintro e w3 ⟨rfl, hb3⟩
    have HB3 := hide (bstep HB2.out hb3)
    clear hb3 HB2
    go_wp2_with fail
    refine (CNo1.out _).mono ?_
    rintro e w4 ⟨rfl, hb4⟩
    have HB4 := hide (bstep HB3.out hb4)
    clear hb4 HB3
    go_wp2_with fail
    refine (CM.out _).mono ?_
    rintro e w5 ⟨r, rfl, hr, rfl⟩
    have hr2 : r = false := by
      cases r
      · rfl
      · exact absurd (hr.1 rfl) HOk.out
    subst hr2
    clear hr
    have e1 := eqNilP
    go_wp2_with (first | simp only [e1])
    go_ret
    exact ⟨rfl, HB4.out⟩
end Go.Proofs.Ytbemmhngadpjcaa
