/- KeySets: asks, walked. -/
import Derived.Test.YtnloglecfbhpcaaKB7
import Derived.Test.YtnloglecfbhpcaaKQ4
import Derived.Test.YtnloglecfbhpcaaKQ3
namespace Go.Proofs.Ytnloglecfbhpcaa
set_option linter.unusedVariables false
set_option linter.unusedSimpArgs false
open Go.RowKit Go.Sort Go.Shelf
set_option maxRecDepth 100000
set_option maxHeartbeats 16000000

theorem name_world {P : Program} {c : Code} {Q : Exit → Act → World → Prop} {a : Act} {w : World} (R : World → Prop) (h : R w) (k : ∀ W, R W → c.wp P Q a W) : c.wp P Q a w := k w h
theorem run_eqS {op : Oper} {ev : Operand → Value} {x y : Operand} {u : TypeId} {s : ByteArray} (ho : op.op = .binOp .eql 9 x y u) (hx : ev x = .string s) (hy : ev y = .string s) (w : World) : (execOp ev op).run Try.prog w = .ok (.value (.bool true)) w := by
  simp only [execOp, ho, hx, hy]
  simp [go_sem]
theorem run_eqK1 {op : Oper} {ev : Operand → Value} {x y : Operand} {u : TypeId} {a : List UInt8} (ha : a.length = 32) (ho : op.op = .binOp .eql 38 x y u) (hx : ev x = keyV a) (hy : ev y = keyV a) (w : World) : (execOp ev op).run Try.prog w = .ok (.value (.bool true)) w := (run_eqlKK ho hx hy ha ha w).trans (by simp)
theorem least_same {V V' : List UInt8 → Prop} {after k k' : List UInt8} {any ok ok' : Bool} (h : LeastN V after any k ok) (h' : LeastN V' after any k' ok') (he : ∀ y, V y ↔ V' y) : k' = k ∧ ok' = ok := by
  rcases h with ⟨a1, a2, a3, a4⟩ | ⟨a1, a2, a3⟩ <;> rcases h' with ⟨b1, b2, b3, b4⟩ | ⟨b1, b2, b3⟩
  · refine ⟨?_, by rw [a1, b1]⟩
    have h1 := a4 k' ((he k').2 b2) b3
    have h2 := b4 k ((he k).1 a2) a3
    have h3 := cmpK_neg k k'
    exact cmpK_zero k' k (by omega)
  · exact absurd a3 (b3 k ((he k).1 a2))
  · exact absurd b3 (a3 k' ((he k').2 b2))
  · exact ⟨by rw [a2, b2], by rw [a1, b1]⟩
theorem short_out (w : World) (q : Option Addr) (S : List (List UInt8)) (k : List UInt8) (hk : k.length = 32) (hin : k ∉ S) (hA : SetQ w q S) : Calls Try.prog 23 #[.pointer q, keyV k] w fun e w' => e = .returned (.tuple #[.string ⟨#[]⟩, .int .i64 31]) ∧ Below w.heap.size w w' := by
  have hB : Below w.heap.size w (w.alloc (.cells (k.map u8c).toArray 38)) := (Below.refl _ _).alloc (Nat.le_refl _) _
  have HKX : Hid (KeyAt (w.alloc (.cells (k.map u8c).toArray 38)) w.heap.size k) := hide ⟨Blk.made w _ _, hk⟩
  have HHs := hide (has_q _ q S k hk (hA.below hB))
  rw [decide_eq_false hin] at HHs
  have HB := hide hB
  clear hB hA hin
  show Calls Try.prog 23 #[.pointer q, .agg (k.map u8c).toArray] w _
  go_enter Try.func23, Try.ntmps23
  go_wp2_with (first | ((with_reducible refine wpList_key (.tmp 3) w.heap.size k HKX.out ?_ ?_ ?_ ?_); rfl; rfl; rfl) | (go_at_call 13; (with_reducible refine HHs.out.mono ?_); rintro e w1 ⟨rfl, hb1⟩; have HB1 := hide hb1; clear hb1))
  go_ret2
  exact ⟨rfl, HB.out.trans (HB1.out.mono HB.out.size)⟩
theorem wz_ne {TK : List (List UInt8)} {w0 W : World} {N wz : Nat} {E : Nat → EL} {kv : Value} {KS : List (Value × Value)} (h : LwS TK w0 W N wz E kv KS) {b : Nat} {cs : Array Value} {t : TypeId} (hb : Blk W b cs t) (ht : t ≠ WT) : b ≠ wz := blk_ne hb h.wb ht
theorem rising_ext : ∀ {a b : List (List UInt8)}, Rising a → Rising b → (∀ x, x ∈ a ↔ x ∈ b) → a = b
  | [], [], _, _, _ => rfl
  | [], y :: b, _, _, h => absurd ((h y).2 (List.mem_cons_self ..)) (by simp)
  | x :: a, [], _, _, h => absurd ((h x).1 (List.mem_cons_self ..)) (by simp)
  | x :: a, y :: b, ha, hb, h => by
    have ha1 := List.pairwise_cons.1 ha
    have hb1 := List.pairwise_cons.1 hb
    have hxy : x = y := by
      rcases List.mem_cons.1 ((h x).1 (List.mem_cons_self ..)) with e | e
      · exact e
      · rcases List.mem_cons.1 ((h y).2 (List.mem_cons_self ..)) with e2 | e2
        · exact e2.symm
        · have h1 := hb1.1 x e
          have h2 := ha1.1 y e2
          have h3 := cmpK_neg x y
          omega
    subst hxy
    rw [rising_ext (a := a) (b := b) ha1.2 hb1.2 (fun z => ⟨fun hz => ?_, fun hz => ?_⟩)]
    · rcases List.mem_cons.1 ((h z).1 (List.mem_cons_of_mem _ hz)) with e | e
      · have h1 := ha1.1 z hz
        rw [e, cmpK_self] at h1
        omega
      · exact e
    · rcases List.mem_cons.1 ((h z).2 (List.mem_cons_of_mem _ hz)) with e | e
      · have h1 := hb1.1 z hz
        rw [e, cmpK_self] at h1
        omega
      · exact e
theorem finda_same {R S : List (List UInt8)} {p k k' : List UInt8} {m m' : Int} (h : (goodP p = false ∧ k = zK ∧ m = 30) ∨ (goodP p = true ∧ FindP S p k m)) (h' : (goodP p = false ∧ k' = zK ∧ m' = 30) ∨ (goodP p = true ∧ FindP R p k' m')) (he : ∀ x, x ∈ S ↔ x ∈ R) : k' = k ∧ m' = m := by
  rcases h with ⟨a1, a2, a3⟩ | ⟨a1, a2⟩ <;> rcases h' with ⟨b1, b2, b3⟩ | ⟨b1, b2⟩
  · exact ⟨by rw [a2, b2], by rw [a3, b3]⟩
  · rw [a1] at b1; cases b1
  · rw [a1] at b1; cases b1
  · exact b2.same (a2.congr he)
/-- What Short tells is one thing. -/
def ShV (R : List (List UInt8)) (k : List UInt8) (t : ByteArray) (m : Int) : Prop := (k ∉ R ∧ t = ⟨#[]⟩ ∧ m = 31) ∨ (k ∈ R ∧ ∃ n, ShM R k n ∧ t = ⟨((hexOf k).take n).toArray⟩ ∧ m = 0)
theorem shorta_form {w w' : World} {R : List (List UInt8)} {k : List UInt8} {e : Ending} (h : ShortA w R k e w') : ∃ t m, e = .returned (.tuple #[.string t, .int .i64 m]) ∧ ShV R k t m := by
  obtain ⟨_, ⟨h1, e1⟩ | ⟨h1, m, h2, e1⟩⟩ := h
  · exact ⟨_, _, e1, .inl ⟨h1, rfl, rfl⟩⟩
  · exact ⟨_, _, e1, .inr ⟨h1, m, h2, rfl, rfl⟩⟩
theorem shv_same {R : List (List UInt8)} {k : List UInt8} {t t' : ByteArray} {m m' : Int} (h : ShV R k t m) (h' : ShV R k t' m') : t' = t ∧ m' = m := by
  rcases h with ⟨a1, a2, a3⟩ | ⟨a1, n, a2, a3, a4⟩ <;> rcases h' with ⟨b1, b2, b3⟩ | ⟨b1, n', b2, b3, b4⟩
  · exact ⟨by rw [a2, b2], by rw [a3, b3]⟩
  · exact absurd b1 a1
  · exact absurd a1 b1
  · obtain rfl := a2.same b2
    exact ⟨by rw [a3, b3], by rw [a4, b4]⟩
theorem asks_any {TK : List (List UInt8)} {w0 W : World} {N wz : Nat} {E : Nat → EL} {kv : Value} {KS : List (Value × Value)} (s : SK) (h : LwS TK w0 W N wz E kv KS) (hs : SkOk TK w0 N s) (htk : TK.length ≤ 4398046510976) (hk : KS.length + 1 ≤ 1099511627776) :
    Calls Try.prog 8 #[.pointer (some ⟨wz, 0, none⟩), skV s] W fun e w' => e = .returned (.bool true) ∧ ∃ kv' KS', LwS TK w0 w' N wz E kv' KS' ∧ KS'.length ≤ KS.length + 1 := by
  have HL0 := hide h
  have H32 := hide hs.k32
  have HPL := hide hs.pl
  have HKL := hide hk
  have HTK := hide htk
  clear h hs hk htk
  go_enter Try.func8, Try.ntmps8
  go_upto_region 1 with fail
  refine name_world (fun D => Below W.heap.size W D ∧ SKB D W.heap.size s) ⟨below_alloc W _, Blk.made W _ _⟩ ?_
  rintro W1 ⟨hB, hS⟩
  obtain ⟨kb, hkb⟩ : ∃ kb, kb = W.heap.size := ⟨_, rfl⟩
  rw [← hkb] at hS ⊢
  have HL1 := hide (HL0.out.below hB)
  have HS1 := hide hS
  obtain ⟨on, hon⟩ : ∃ on, on = s.on := ⟨_, rfl⟩
  have c1 : W1.cell? ⟨kb, 1, none⟩ = some (.int .i64 on) := by rw [hon]; exact sk_on hS
  clear hB hS hkb hon HL0
  go_upto_region 2 with (go_at_call 17; (with_reducible refine (three_val on _).mono ?_); rintro e w1 ⟨rfl, rfl⟩)
  obtain ⟨j, hj⟩ : ∃ j, j = thN on := ⟨_, rfl⟩
  rw [← hj]
  have hj3 : j < 3 := by rw [hj]; exact thN_lt on
  have HJ := hide hj3
  clear hj hj3 c1
  obtain ⟨D, hD⟩ : ∃ D, D = w1.drew := ⟨_, rfl⟩
  have hbd : Below w1.heap.size w1 D := by rw [hD]; exact (Below.refl _ _).drew
  have HL := hide (HL1.out.below hbd)
  have HS : Hid (SKB D kb s) := hide (Blk.below HS1.out hbd (Blk.lt HS1.out))
  obtain ⟨q, hq⟩ : ∃ q, q = (E j).q := ⟨_, rfl⟩
  obtain ⟨z, hz⟩ : ∃ z, z = (E j).z := ⟨_, rfl⟩
  obtain ⟨R, hR⟩ : ∃ R, R = (E j).R := ⟨_, rfl⟩
  have HSet : Hid (∀ W2, LwS TK w0 W2 N wz E kv KS → ∃ S, SetQ W2 q S ∧ S.Nodup ∧ (∀ x, x ∈ S ↔ x ∈ R) ∧ (∀ x ∈ S, x.length = 32) ∧ S.length = R.length ∧ S.length ≤ 4398046510976) := hide (fun W2 h2 => by
    obtain ⟨S, g1, g2, g3, g4, g5⟩ := (h2.el j HJ.out).q
    have := (h2.el j HJ.out).len
    have := HTK.out
    rw [hq, hR]
    exact ⟨S, g1, g2, g3, g4, g5, by omega⟩)
  have HRs : Hid (∀ W2, LwS TK w0 W2 N wz E kv KS → RsB W2 z R) := hide (fun W2 h2 => by rw [hz, hR]; exact (h2.el j HJ.out).rs)
  have HRL : Hid (R.length ≤ 4398046510976) := hide (by
    have := (HL.out.el j HJ.out).len
    have := HTK.out
    rw [hR]
    omega)
  have HRi : Hid (Rising R) := hide (by rw [hR]; exact (HL.out.el j HJ.out).ri)
  have HR32 : Hid (∀ x ∈ R, x.length = 32) := hide (by rw [hR]; exact (HL.out.el j HJ.out).l32)
  have hcc : D.cell? ⟨wz, j, none⟩ = some (.pointer q) ∧ D.cell? ⟨wz, 3 + j, none⟩ = some (.pointer (some ⟨z, 0, none⟩)) := by rw [hq, hz]; exact ⟨HL.out.cP HJ.out, HL.out.cR HJ.out⟩
  rw [hD] at hcc
  refine wp_norm (ar_walk _ (fun _ _ _ _ _ h => h) w1 wz j z HJ.out q hcc _ ?_ ?_ ?_ ?_)
  any_goals rfl
  · exact Nat.lt_of_sub_pos (by exact Nat.succ_pos _)
  simp only [Act.put, List.setIfInBounds_toArray, List.set_cons_zero, List.set_cons_succ, Exit.then]
  rw [← hD]
  clear hcc hD hbd HL1 HS1 hq hz hR
  obtain ⟨k, hk⟩ : ∃ k, k = s.key := ⟨_, rfl⟩
  have HK : Hid (∀ W2, SKB W2 kb s → W2.rangeAt kb 3 (k.map u8c)) := hide (fun W2 h2 => by rw [hk]; exact sk_key h2)
  have HK32 : Hid (k.length = 32) := hide (by rw [hk]; exact H32.out)
  have HKE := hide hk
  clear hk
  obtain ⟨kd, hkd⟩ : ∃ kd, kd = s.kd := ⟨_, rfl⟩
  have ck : D.cell? ⟨kb, 0, none⟩ = some (.int .i64 kd) := by rw [hkd]; exact sk_kd HS.out
  clear hkd
  have HSd : Hid (SKB D.drew kb s) := hide (Blk.below HS.out ((Below.refl D.heap.size D).drew) (Blk.lt HS.out))
  have HLd := hide (HL.out.below ((Below.refl D.heap.size D).drew))
  have HSB : Hid (∀ W2, Below D.heap.size D W2 → SKB W2 kb s ∧ LwS TK w0 W2 N wz E kv KS) := hide (fun W2 hb => ⟨Blk.below HS.out hb (Blk.lt HS.out), HL.out.below hb⟩)
  have HSBd : Hid (∀ W2, Below D.drew.heap.size D.drew W2 → SKB W2 kb s ∧ LwS TK w0 W2 N wz E kv KS) := hide (fun W2 hb => ⟨Blk.below HSd.out hb (Blk.lt HSd.out), HLd.out.below hb⟩)
  by_cases h3 : kd = 3
  · subst h3
    obtain ⟨S, hq1, _, hmem, _⟩ := HSet.out _ HLd.out
    have e1 : decide (k ∈ S) = decide (k ∈ R) := by
      by_cases g : k ∈ R
      · rw [decide_eq_true g, decide_eq_true ((hmem k).2 g)]
      · rw [decide_eq_false g, decide_eq_false (fun g2 => g ((hmem k).1 g2))]
    have hc1 := has_q D.drew q S k HK32.out hq1
    rw [e1] at hc1
    have HC1 := hide hc1
    clear hc1 e1
    clear hq1 hmem
    go_upto_region 5 with fail
    refine wp_norm (ah_walk _ (fun _ _ _ _ _ h => h) D z kb q s H32.out (decide (k ∈ R)) (fun w2 => Below D.drew.heap.size D.drew w2) (fun w2 w3 => Below w2.heap.size w2 w3) (sk_key HSd.out) (by rw [← HKE.out]; exact HC1.out) (fun w2 h2 => sk_key (HSBd.out w2 h2).1) (fun w2 h2 => by rw [← HKE.out]; exact rhasB w2 z R k HK32.out (HRs.out w2 (HSBd.out w2 h2).2) (by have := HRL.out; omega)) (fun w2 w3 h2 h3 => sk_key (HSBd.out w3 (h2.trans (h3.mono h2.size))).1) _ ?_ ?_ ?_ ?_ ?_)
    any_goals rfl
    · exact Nat.lt_of_sub_pos (by exact Nat.succ_pos _)
    rintro w2 h2 w3 h3
    have HE := hide (HSBd.out w3 (h2.trans (h3.mono h2.size))).2
    clear h2 h3 ck HC1
    simp only [Act.put, List.setIfInBounds_toArray, List.set_cons_zero, List.set_cons_succ, Exit.then]
    go_wp2
    go_ret
    exact ⟨rfl, _, _, HE.out, Nat.le_succ _⟩
  · have b3 : (kd == 3) = false := by simpa using h3
    by_cases h5 : kd = 5
    · subst h5
      obtain ⟨S, hq1, _, _, _, hSR, _⟩ := HSet.out _ HLd.out
      obtain ⟨ao, n, c, hrs⟩ := HRs.out _ HLd.out
      have HC1 := hide (klen_q D.drew q S hq1)
      rw [hSR, ← hrs.len] at HC1
      have HCl : Hid (D.drew.cell? ⟨z, 0, none⟩ = some (.slice ao n c)) := hide (by rw [hrs.blk.cell]; rfl)
      clear hq1 hSR hrs
      go_upto_region 7 with fail
      refine wp_norm (al_walk _ (fun _ _ _ _ _ h => h) D z n c ao q HCl.out HC1.out _ ?_ ?_ ?_ ?_)
      any_goals rfl
      · exact Nat.lt_of_sub_pos (by exact Nat.succ_pos _)
      clear ck HC1
      simp only [Act.put, List.setIfInBounds_toArray, List.set_cons_zero, List.set_cons_succ, Exit.then]
      go_wp2
      go_ret
      exact ⟨rfl, _, _, HLd.out, Nat.le_succ _⟩
    · have b5 : (kd == 5) = false := by simpa using h5
      by_cases h6 : kd = 6
      · subst h6
        obtain ⟨an, han⟩ : ∃ an, an = s.any := ⟨_, rfl⟩
        have HAn : Hid (∀ W2, SKB W2 kb s → W2.cell? ⟨kb, 36, none⟩ = some (.bool an)) := hide (fun W2 h2 => by rw [han]; exact sk_any h2 H32.out)
        obtain ⟨S, hq1, _, hmem, hS32, _, _⟩ := HSet.out _ HL.out
        have HC1 := hide (next_q D q S k an HK32.out hq1)
        have HEq : Hid (∀ x, (x.length = 32 ∧ x ∈ S) ↔ x ∈ R) := hide (fun x => ⟨fun h2 => (hmem x).1 h2.2, fun h2 => ⟨HR32.out x h2, (hmem x).2 h2⟩⟩)
        have ca := HAn.out _ HS.out
        have hz0 := zero_key
        have HKr := hide (HK.out _ HS.out)
        clear hq1 hmem hS32 han
        go_upto_region 10 with (first | ((with_reducible refine wpList_load_keyAt (.tmp 62) kb 3 k HK32.out HKr.out ?_ ?_ ?_ ?_); rfl; rfl; rfl) | (go_at_call 19; (with_reducible refine HC1.out.mono ?_); rintro e w2 ⟨k1, ok1, rfl, hk1, hl1, hb2⟩; have HK1 := hide hk1; have HL1 := hide hl1; have HB2 := hide hb2; have HZB : Hid (KeyAt (w2.alloc (.cells keyZ 38)) w2.heap.size zK) := hide ⟨Blk.made w2 _ _, rfl⟩; clear hk1 hl1 hb2) | ((with_reducible refine wpList_store_keyK ?_ (.tmp 8) (.tmp 67) ?_ w2.heap.size ?_ zK k1 HZB.out HK1.out ?_ ?_); rfl; rfl; rfl; rfl; intro w3 HA3 HG3))
        obtain ⟨eb, heb⟩ : ∃ eb, eb = w2.heap.size := ⟨_, rfl⟩
        have hb3 : Below D.heap.size D w3 := HB2.out.trans ((below_grownBy (grownBy_trans (World.grownBy_alloc w2 _ _) HG3.out) (Nat.le_refl _) (Nat.le_refl _)).mono HB2.out.size)
        rw [← heb] at HA3 ⊢
        have HB3 := hide hb3
        have ca3 := HAn.out _ (HSB.out w3 hb3).1
        have HKr3 := hide (HK.out _ (HSB.out w3 hb3).1)
        have HC2 := hide (rnext_any w3 z R k an HK32.out (HRs.out w3 (HSB.out w3 hb3).2) (by have := HRL.out; omega) HRi.out)
        clear hb3 heb HB2 HZB HG3 HC1 HKr ca ck
        go_upto_region 11 with (first | ((with_reducible refine wpList_load_keyAt (.tmp 71) kb 3 k HK32.out HKr3.out ?_ ?_ ?_ ?_); rfl; rfl; rfl) | (go_at_call 20; (with_reducible refine HC2.out.mono ?_); rintro e w4 ⟨k2, ok2, rfl, hk2, hl2, hb4⟩; obtain ⟨rfl, rfl⟩ := least_same HL1.out hl2 HEq.out; have HB4 := hide hb4; have HZB : Hid (KeyAt (w4.alloc (.cells keyZ 38)) w4.heap.size zK) := hide ⟨Blk.made w4 _ _, rfl⟩; clear hk2 hl2 hb4) | ((with_reducible refine wpList_store_keyK ?_ (.tmp 10) (.tmp 76) ?_ w4.heap.size ?_ zK _ HZB.out HK1.out ?_ ?_); rfl; rfl; rfl; rfl; intro w5 HA5 HG5))
        have hb5 : Below w4.heap.size w4 w5 := below_grownBy (grownBy_trans (World.grownBy_alloc w4 _ _) HG5.out) (Nat.le_refl _) (Nat.le_refl _)
        have HA3' := hide ((HA3.out.below HB4.out).below hb5)
        have HE := hide (HSB.out w5 (HB3.out.trans ((HB4.out.trans (hb5.mono HB4.out.size)).mono HB3.out.size))).2
        clear hb5 HB4 HG5 HZB HC2 HKr3 ca3 HB3 HA3
        clear HL1
        cases ok2
        all_goals
          go_wp2_with (first | ((with_reducible refine wpList_key (.tmp 8) eb _ HA3'.out ?_ ?_ ?_ ?_); rfl; rfl; rfl) | ((with_reducible refine wpList_key (.tmp 10) w4.heap.size _ HA5.out ?_ ?_ ?_ ?_); rfl; rfl; rfl) | ((with_reducible refine Go.Proofs.Ytnloglecfbhpcaa.wpList_val (.bool true) ?_ (run_eqK1 (u := 38) (x := .tmp 78) (y := .tmp 79) HK1.out ?_ ?_ ?_ _) ?_); rfl; rfl; rfl; rfl))
          go_ret
          exact ⟨rfl, _, _, HE.out, Nat.le_succ _⟩
      · have b6 : (kd == 6) = false := by simpa using h6
        by_cases h7 : kd = 7
        · subst h7
          obtain ⟨S, hq1, _, hmem, hS32, _, hSl⟩ := HSet.out _ HLd.out
          obtain ⟨ao, n, c, hrs⟩ := HRs.out _ HLd.out
          have HC1 : Hid (Calls Try.prog 11 #[.pointer q] D.drew fun e w' => ∃ lb, e = .returned (riF lb) ∧ ItK w' lb R ∧ Below D.drew.heap.size D.drew w') := hide ((all_q D.drew q S hq1 hSl).mono (fun e w' ⟨bx, ar, cap, ks, e1, k1, k2, k3, k4, k5, k6⟩ => by
            have e2 : ks = R := rising_ext k3 HRi.out (fun x => (k4 x).trans ⟨fun h2 => (hmem x).1 h2.2, fun h2 => ⟨HR32.out x h2, (hmem x).2 h2⟩⟩)
            subst e2
            exact ⟨bx, e1, ⟨ar, cap, k1, k2⟩, k6⟩))
          have HRb : Hid (∀ W2, Below D.drew.heap.size D.drew W2 → RsAt W2 z ao n c R) := hide (fun W2 hb => hrs.below hb)
          have HN := hide hrs.len
          have HCr : Hid (∀ W2, RsAt W2 z ao n c R → W2.cell? ⟨z, 0, none⟩ = some (.slice ao n c)) := hide (fun W2 h2 => by rw [h2.blk.cell]; rfl)
          clear hq1 hmem hS32 hSl hrs
          go_upto_region 13 with fail
          refine wp_norm (aa_walk _ (fun _ _ _ _ _ h => h) D z n c ao q (fun lb w' => ItK w' lb R ∧ Below D.drew.heap.size D.drew w') (fun _ w2 w3 => Below w2.heap.size w2 w3) (HCr.out _ (HRb.out _ (Below.refl _ _))) HC1.out (fun lb w2 h2 => HCr.out _ (HRb.out _ h2.2)) (fun lb w2 h2 => tells_any w2 h2.1 (HRb.out _ h2.2).row HN.out (by have := HRL.out; omega)) (fun lb w2 w3 h2 h3 => HCr.out _ (HRb.out _ (h2.2.trans (h3.mono h2.2.size)))) _ ?_ ?_ ?_ ?_)
          any_goals rfl
          · exact Nat.lt_of_sub_pos (by exact Nat.succ_pos _)
          rintro lb w2 ⟨_, h2⟩ w3 h3
          have HE := hide (HSBd.out w3 (h2.trans (h3.mono h2.size))).2
          clear h2 h3 ck HC1
          simp only [Act.put, List.setIfInBounds_toArray, List.set_cons_zero, List.set_cons_succ, Exit.then]
          go_wp2
          go_ret
          exact ⟨rfl, _, _, HE.out, Nat.le_succ _⟩
        · have b7 : (kd == 7) = false := by simpa using h7
          by_cases h13 : kd = 13
          · subst h13
            obtain ⟨S, hq1, _, hmem, hS32, _, hSl⟩ := HSet.out _ HLd.out
            obtain ⟨ao, n, c, hrs⟩ := HRs.out _ HLd.out
            have HC1 : Hid (Calls Try.prog 11 #[.pointer q] D.drew fun e w' => ∃ lb, e = .returned (riF lb) ∧ ItK w' lb R ∧ Below D.drew.heap.size D.drew w') := hide ((all_q D.drew q S hq1 hSl).mono (fun e w' ⟨bx, ar, cap, ks, e1, k1, k2, k3, k4, k5, k6⟩ => by
              have e2 : ks = R := rising_ext k3 HRi.out (fun x => (k4 x).trans ⟨fun h2 => (hmem x).1 h2.2, fun h2 => ⟨HR32.out x h2, (hmem x).2 h2⟩⟩)
              subst e2
              exact ⟨bx, e1, ⟨ar, cap, k1, k2⟩, k6⟩))
            have HRb : Hid (∀ W2, Below D.drew.heap.size D.drew W2 → RsAt W2 z ao n c R) := hide (fun W2 hb => hrs.below hb)
            have HN := hide hrs.len
            have HCr : Hid (∀ W2, RsAt W2 z ao n c R → W2.cell? ⟨z, 0, none⟩ = some (.slice ao n c)) := hide (fun W2 h2 => by rw [h2.blk.cell]; rfl)
            clear hq1 hmem hS32 hSl hrs
            have HP : Hid (∀ lb w2, (ItK w2 lb R ∧ Below D.drew.heap.size D.drew w2) → ∃ a5 n5 c5 w5, (Builtin.append_ #[KPLT, KPLT] KPLT #[kv, .slice (some ⟨w2.heap.size, 0, none⟩) 1 1]).run Try.prog (w2.alloc (.cells #[riF lb, .slice ao n c] KPT)) = .ok (.slice a5 n5 c5) w5 ∧ (∃ kv' KS', LwS TK w0 (w5.setCell ⟨wz, 9, none⟩ (.slice a5 n5 c5)) N wz E kv' KS' ∧ KS'.length ≤ KS.length + 1) ∧ w5.cell? ⟨z, 0, none⟩ = some (.slice ao n c) ∧ (∃ v, w5.cell? ⟨wz, 9, none⟩ = some v) ∧ w5.frozen? ⟨wz, 9, none⟩ = false ∧ (w5.setCell ⟨wz, 9, none⟩ (.slice a5 n5 c5)).cell? ⟨z, 0, none⟩ = some (.slice ao n c)) := hide (fun lb w2 ⟨h1, h2⟩ => by
              have hr := HRb.out w2 h2
              obtain ⟨a5, n5, c5, w5, r1, r2, r3, r4, r5⟩ := (HSBd.out w2 h2).2.push h1 hr.row HN.out HRL.out HKL.out
              refine ⟨a5, n5, c5, w5, r1, ⟨_, _, r3, by simp⟩, ?_, ⟨_, by rw [r2.cell]; rfl⟩, Blk.frozen r2 _, ?_⟩
              · rw [(r4 z _ _ hr.blk (by decide)).cell]; rfl
              · rw [(r5 z _ _ hr.blk (by decide) (by decide)).cell]; rfl)
            have HK1 : Hid (∀ lb w2, (ItK w2 lb R ∧ Below D.drew.heap.size D.drew w2) → w2.cell? ⟨z, 0, none⟩ = some (.slice ao n c) ∧ w2.cell? ⟨wz, 9, none⟩ = some kv ∧ (w2.alloc (.cells #[riF lb, .slice ao n c] KPT)).cell? ⟨z, 0, none⟩ = some (.slice ao n c) ∧ (w2.alloc (.cells #[riF lb, .slice ao n c] KPT)).cell? ⟨wz, 9, none⟩ = some kv) := hide (fun lb w2 ⟨_, h2⟩ => by
              have hb1 : Below w2.heap.size w2 (w2.alloc (.cells #[riF lb, .slice ao n c] KPT)) := (Below.refl _ _).alloc (Nat.le_refl _) _
              exact ⟨HCr.out _ (HRb.out _ h2), (HSBd.out w2 h2).2.cK, HCr.out _ ((HRb.out _ h2).below hb1), ((HSBd.out w2 h2).2.below hb1).cK⟩)
            go_upto_region 15 with fail
            refine wp_norm (ak_walk _ (fun _ _ _ _ _ h => h) D wz z n c ao q kv (fun lb w' => ItK w' lb R ∧ Below D.drew.heap.size D.drew w') (fun _ _ v5 w5 => ∃ kv' KS', LwS TK w0 (w5.setCell ⟨wz, 9, none⟩ v5) N wz E kv' KS' ∧ KS'.length ≤ KS.length + 1) (HCr.out _ (HRb.out _ (Below.refl _ _))) HLd.out.cK HC1.out HK1.out HP.out _ ?_ ?_ ?_ ?_ ?_ ?_ ?_)
            any_goals rfl
            · exact Nat.lt_of_sub_pos (by exact Nat.succ_pos _)
            all_goals
              rintro lb w2 - a5 n5 c5 w5 ⟨kv', KS', hE1, hE2⟩
              have HE := hide hE1
              have HE2 := hide hE2
              clear hE1 hE2 ck HC1 HP HK1
              simp only [Act.put, List.setIfInBounds_toArray, List.set_cons_zero, List.set_cons_succ, Exit.then]
              go_wp2
              go_ret
              exact ⟨rfl, _, _, HE.out, HE2.out⟩
          · have b13 : (kd == 13) = false := by simpa using h13
            by_cases h11 : kd = 11
            · subst h11
              obtain ⟨p, hp⟩ : ∃ p, p = s.pre := ⟨_, rfl⟩
              have HPc : Hid (∀ W2, SKB W2 kb s → W2.cell? ⟨kb, 37, none⟩ = some (.string ⟨p.toArray⟩)) := hide (fun W2 h2 => by rw [hp]; exact sk_pre h2 H32.out)
              have HPl : Hid (p.length ≤ 9223372036854775807) := hide (by rw [hp]; exact HPL.out)
              obtain ⟨S, hq1, _, hmem, hS32, _, hSl⟩ := HSet.out _ HL.out
              have HC1 := hide (find_q D q S p HPl.out hS32 hq1 hSl)
              have HMem := hide hmem
              have ca := HPc.out _ HS.out
              have hz0 := zero_key
              clear hq1 hmem hS32 hp hSl
              go_upto_region 18 with (first | (go_at_call 21; (with_reducible refine HC1.out.mono ?_); rintro e w2 ⟨k1, m1, rfl, hk1, hb2, hl1⟩; have HK1 := hide hk1; have HL1 := hide hl1; have HB2 := hide hb2; have HZB : Hid (KeyAt (w2.alloc (.cells keyZ 38)) w2.heap.size zK) := hide ⟨Blk.made w2 _ _, rfl⟩; clear hk1 hl1 hb2) | ((with_reducible refine wpList_store_keyK ?_ (.tmp 12) (.tmp 121) ?_ w2.heap.size ?_ zK k1 HZB.out HK1.out ?_ ?_); rfl; rfl; rfl; rfl; intro w3 HA3 HG3))
              obtain ⟨eb, heb⟩ : ∃ eb, eb = w2.heap.size := ⟨_, rfl⟩
              have hb3 : Below D.heap.size D w3 := HB2.out.trans ((below_grownBy (grownBy_trans (World.grownBy_alloc w2 _ _) HG3.out) (Nat.le_refl _) (Nat.le_refl _)).mono HB2.out.size)
              rw [← heb] at HA3 ⊢
              have HB3 := hide hb3
              have ca3 := HPc.out _ (HSB.out w3 hb3).1
              have HC2 := hide (rfind_any w3 z R p HPl.out (HRs.out w3 (HSB.out w3 hb3).2) (by have := HRL.out; omega) (rising_nodup HRi.out))
              clear hb3 heb HB2 HZB HG3 HC1 ca ck
              go_upto_region 19 with (first | (go_at_call 22; (with_reducible refine HC2.out.mono ?_); rintro e w4 ⟨k2, m2, rfl, hk2, hb4, hl2⟩; obtain ⟨rfl, rfl⟩ := finda_same HL1.out hl2 HMem.out; have HB4 := hide hb4; have HZB : Hid (KeyAt (w4.alloc (.cells keyZ 38)) w4.heap.size zK) := hide ⟨Blk.made w4 _ _, rfl⟩; clear hk2 hl2 hb4) | ((with_reducible refine wpList_store_keyK ?_ (.tmp 14) (.tmp 128) ?_ w4.heap.size ?_ zK _ HZB.out HK1.out ?_ ?_); rfl; rfl; rfl; rfl; intro w5 HA5 HG5))
              have hb5 : Below w4.heap.size w4 w5 := below_grownBy (grownBy_trans (World.grownBy_alloc w4 _ _) HG5.out) (Nat.le_refl _) (Nat.le_refl _)
              have HA3' := hide ((HA3.out.below HB4.out).below hb5)
              have HE := hide (HSB.out w5 (HB3.out.trans ((HB4.out.trans (hb5.mono HB4.out.size)).mono HB3.out.size))).2
              clear hb5 HB4 HG5 HZB HC2 ca3 HB3 HA3
              go_wp2_with (first | ((with_reducible refine wpList_key (.tmp 12) eb _ HA3'.out ?_ ?_ ?_ ?_); rfl; rfl; rfl) | ((with_reducible refine wpList_key (.tmp 14) w4.heap.size _ HA5.out ?_ ?_ ?_ ?_); rfl; rfl; rfl) | ((with_reducible refine Go.Proofs.Ytnloglecfbhpcaa.wpList_val (.bool true) ?_ (run_eqK1 (u := 38) (x := .tmp 130) (y := .tmp 131) HK1.out ?_ ?_ ?_ _) ?_); rfl; rfl; rfl; rfl))
              go_ret
              exact ⟨rfl, _, _, HE.out, Nat.le_succ _⟩
            · have b11 : (kd == 11) = false := by simpa using h11
              by_cases h12 : kd = 12
              · subst h12
                have HKr := hide (HK.out _ HS.out)
                have HC1 : Hid (Calls Try.prog 23 #[.pointer q, keyV k] D (ShortA D R k)) := hide (by
                  obtain ⟨S, hq1, _, hmem, hS32, _, hSl⟩ := HSet.out _ HL.out
                  by_cases hin : k ∈ S
                  · refine (short_in D q S k HK32.out hin hq1 hSl).mono (fun e w' ⟨m, e1, h1, h2, h3, h4, h5⟩ => ⟨h5, .inr ⟨(hmem k).1 hin, m, ⟨h1, h2, fun x hx => h3 x ((hmem x).2 hx) (hS32 x ((hmem x).2 hx)), fun hm => ?_⟩, e1⟩⟩)
                    obtain ⟨x, hx, _, g1, g2⟩ := h4 hm
                    exact ⟨x, (hmem x).1 hx, g1, g2⟩
                  · exact (short_out D q S k HK32.out hin hq1).mono (fun e w' ⟨e1, h5⟩ => ⟨h5, .inl ⟨fun h2 => hin ((hmem k).2 h2), e1⟩⟩))
                go_upto_region 22 with (first | ((with_reducible refine wpList_load_keyAt (.tmp 142) kb 3 k HK32.out HKr.out ?_ ?_ ?_ ?_); rfl; rfl; rfl) | (go_at_call 23; (with_reducible refine HC1.out.mono ?_); intro e w2 hr2; obtain ⟨t, m, rfl, hsa⟩ := shorta_form hr2; have HSA := hide hsa; have HB2 := hide hr2.1; clear hr2 hsa))
                have HKr3 := hide (HK.out _ (HSB.out w2 HB2.out).1)
                have HC2 := hide (rshort_any w2 z R k HK32.out (HRs.out w2 (HSB.out w2 HB2.out).2) HR32.out (by have := HRL.out; omega) (rising_nodup HRi.out))
                clear HC1 HKr ck
                go_wp2_with (first | ((with_reducible refine wpList_load_keyAt (.tmp 149) kb 3 k HK32.out HKr3.out ?_ ?_ ?_ ?_); rfl; rfl; rfl) | (go_at_call 24; (with_reducible refine HC2.out.mono ?_); intro e w3 hr3; obtain ⟨t2, m2, rfl, hsa⟩ := shorta_form hr3; obtain ⟨rfl, rfl⟩ := shv_same HSA.out hsa; have HB3 := hide hr3.1; clear hr3 hsa) | ((with_reducible refine Go.Proofs.Ytnloglecfbhpcaa.wpList_val (.bool true) ?_ (run_eqS (u := 9) (x := .tmp 154) (y := .tmp 155) ?_ ?_ ?_ _) ?_); rfl; rfl; rfl; rfl))
                go_ret
                have HE := hide (HSB.out w3 (HB2.out.trans (HB3.out.mono HB2.out.size))).2
                exact ⟨rfl, _, _, HE.out, Nat.le_succ _⟩
              · have b12 : (kd == 12) = false := by simpa using h12
                go_wp2
                go_ret
                exact ⟨rfl, _, _, HL.out, Nat.le_succ _⟩
end Go.Proofs.Ytnloglecfbhpcaa
