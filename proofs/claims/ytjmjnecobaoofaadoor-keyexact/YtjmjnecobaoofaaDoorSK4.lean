/- words, the document's. -/
import Derived.Test.YtjmjnecobaoofaaDoorSK1
import Derived.Test.YtjmjnecobaoofaaDoorST2
namespace Go.Proofs.YtjmjnecobaoofaaDoor
set_option linter.unusedVariables false
set_option linter.unusedSimpArgs false
open Go.RowKit

theorem infoU64 : (Tryd.prog.info? 57).map (fun i => (i.zero, i.size, i.bytes)) = some (some (.int .u64 0), 1, 8) := by kernel_rfl
theorem u64c_one (xs : List Nat) : ∀ v ∈ xs.map u64c, v.oneCell' = true := by
  intro v hv
  obtain ⟨u, _, rfl⟩ := List.mem_map.1 hv
  rfl
/-- A row of the call's own that holds these words. -/
def OwnsW (w : World) (base : Nat) (v : Value) (xs : List Nat) : Prop := w.ownsRow base 57 1 v xs.length (xs.map u64c)
theorem wpList_append_word {ops : Array Oper} {rest : List Oper} {o : Oper} {a : Act} {w : World} {Q : Exit → Act → World → Prop} (hgd : o.guard = none) (s x : Operand) (ho : o.op = .call { callee := .builtin .append, args := #[s, x], argTypes := #[71, 71] })
    (base : Nat) (v : Value) (xs : List Nat) (hs : a.eval s = v) (hown : OwnsW w base v xs) (z c : Nat) (hx : a.eval x = .slice (some ⟨z, 0, none⟩) 1 c) (y : Nat) (q : Int) (hq : q = y) (hc : w.cell? ⟨z, 0, none⟩ = some (.int .u64 q)) (hlen : xs.length ≤ 1000000) (hbase : base ≤ w.heap.size)
    (h : ∀ v' w', Hid (OwnsW w' base v' (xs ++ [y])) → Hid (w.grownBy w' v.ownBlock) → wpList Tryd.prog ops Q rest (a.put o.dst v') w') : wpList Tryd.prog ops Q (o :: rest) a w := by
  subst hq
  obtain ⟨i0, hi, hz0, hz1, hz2⟩ := info_parts infoU64
  refine wpList_append_own_at w hgd s x 71 ho base 57 i0 (.int .u64 0) 1 8 Tryd.underlying71 hi hz0 hz1 hz2 rfl (by decide) v xs.length (xs.map u64c) hs hown ⟨z, 0, none⟩ 1 c [u64c y] hx rfl ?_ (u64c_one [y]) (by unfold maxLen; omega) (by omega) hbase ?_
  · intro j u hj
    cases j with
    | zero => cases hj; exact hc
    | succ j => simp at hj
  · intro v' w' h1 h2 _ h4
    exact h v' w' (hide (by unfold OwnsW; rw [List.length_append, List.map_append]; exact h1)) (hide h2)
theorem OwnsW.at {w : World} {base g n cap : Nat} {xs : List Nat} (h : OwnsW w base (.slice (some ⟨g, 0, none⟩) n cap) xs) (k : Nat) (hk : k < xs.length) : w.cell? ⟨g, k, none⟩ = some (.int .u64 ((xs[k]?.getD 0 : Nat) : Int)) := by
  obtain ⟨hl, ⟨h1, _⟩ | ⟨g', cap', cur, e, hb, hg, hc, hm, hs, ht⟩⟩ := h
  · cases h1
  · cases e
    have hB : Blk w g cur 57 := hg
    rw [hB.cell, ← Array.getElem?_toList]
    have : (cur.toList.take (xs.length * 1))[k]? = some (u64c (xs[k]?.getD 0)) := by rw [ht]; simp [List.getElem?_eq_getElem hk]
    rw [List.getElem?_take_of_lt (by omega)] at this
    exact this
theorem below_drew' (base : Nat) (w : World) (n : Nat) : Below base w (w.drewN n) := ⟨rfl, rfl, rfl, Nat.le_refl _, fun _ _ => rfl⟩

theorem OwnsW.below {w w' : World} {base : Nat} {v : Value} {xs : List Nat} (h : OwnsW w base v xs) (hb : Below w.heap.size w w') : OwnsW w' base v xs := owns_below h hb
theorem OwnsW.form {w : World} {base : Nat} {v : Value} {xs : List Nat} (h : OwnsW w base v xs) (h0 : 0 < xs.length) : ∃ g cap, v = .slice (some ⟨g, 0, none⟩) xs.length cap := by
  obtain ⟨hl, ⟨h1, h2⟩ | ⟨g, cap, cur, rfl, r⟩⟩ := h
  · omega
  · exact ⟨g, cap, rfl⟩
/-- turned, what stays. -/
theorem turned_b (w : World) (x n : Nat) (hx : x < 4294967296) (h : n ≤ 32) : Calls Tryd.prog 44 #[.int .u64 x, .int .i64 n] w fun e w' => e = .returned (.int .u64 (rr n x : Nat)) ∧ Below w.heap.size w w' :=
  (turned_any w x n hx h).mono fun e w' ⟨h1, m, h2⟩ => ⟨h1, by rw [h2]; exact below_drew' _ _ _⟩
theorem rright_b (w : World) (x n : Nat) (hx : x < 4294967296) (h : n ≤ 32) : Calls Tryd.prog 45 #[.int .u64 x, .int .i64 n] w fun e w' => e = .returned (.int .u64 (x / 2 ^ n : Nat)) ∧ Below w.heap.size w w' :=
  (rright_any w x n hx h).mono fun e w' ⟨h1, h2⟩ => ⟨h1, by rw [h2]; exact Below.refl _ _⟩
theorem xor64_nat (x y : Nat) (hx : x < 4294967296) (hy : y < 4294967296) : bits .xor .u64 (x : Int) (y : Int) = ((x ^^^ y : Nat) : Int) := u64_xor_nat x y (by omega) (by omega)
set_option maxRecDepth 40000 in
set_option maxHeartbeats 4000000 in
theorem words_any (w : World) (v : Value) (b : List UInt8) (hrd : Rd w v b) (hb : b.length = 64) : Calls Tryd.prog 39 #[v] w fun e w' => ∃ v', e = .returned v' ∧ OwnsW w' w.heap.size v' (wds b 64) ∧ Below w.heap.size w w' := by
  have HRD := hide (fun w' (hb : Below w.heap.size w w') => hrd.below hb)
  obtain ⟨bz, bo, bc, rfl⟩ : ∃ bz bo bc, v = .slice (some ⟨bz, bo, none⟩) 64 bc := by
    rcases hrd.form with ⟨_, rfl⟩ | ⟨bz, bo, bc, e, _⟩
    · simp at hb
    · exact ⟨bz, bo, bc, by rw [e, hb]⟩
  clear hrd
  go_enter Tryd.func39, Tryd.ntmps39
  go_wp2
  go_loopw [3, 4] (fun v i wr => ∃ (va : Value) (k : Nat), va = v ∧ i = .int .i64 k ∧ k ≤ 64 ∧ OwnsW wr w.heap.size va (wds b k) ∧ Below w.heap.size w wr) (fun _ i _ => 64 - (intOf i).toNat)
  case atStart => exact ⟨_, 0, rfl, rfl, by omega, World.ownsRow_nil _ _ _ _, Below.refl _ _⟩
  case round =>
    obtain ⟨va, k, rfl, rfl, hk, hown, hbel⟩ := hrel
    have hsz : w.heap.size ≤ wr.heap.size := hbel.size
    by_cases hlt : k < 64
    · by_cases h16 : k < 16
      · have hq (j : Nat) (hj : j < 4) : wr.cell? ⟨bz, bo + (4 * k + j), none⟩ = some (.int .u8 ((b[4 * k + j]?.getD 0).toNat : Int)) := by
          have hl : 4 * k + j < b.length := by omega
          rcases (HRD.out wr hbel).form with ⟨e, _⟩ | ⟨z', o', c', e, hcell⟩
          · cases e
          · obtain ⟨e1, _, _⟩ := (Value.slice.injEq ..).mp e
            cases e1
            rw [hcell _ hl, List.getElem?_eq_getElem hl]; rfl
        have hwd : wordAt b k = (((b[4 * k]?.getD 0).toNat * 256 + (b[4 * k + 1]?.getD 0).toNat) * 65536 + (b[4 * k + 2]?.getD 0).toNat * 256 + (b[4 * k + 3]?.getD 0).toNat) := rfl
        have q0 := hq 0 (by omega)
        have q1 := hq 1 (by omega)
        have q2 := hq 2 (by omega)
        have q3 := hq 3 (by omega)
        have l0 := (b[4 * k]?.getD 0).toNat_lt
        have l1 := (b[4 * k + 1]?.getD 0).toNat_lt
        have l2 := (b[4 * k + 2]?.getD 0).toNat_lt
        have l3 := (b[4 * k + 3]?.getD 0).toNat_lt
        rw [Nat.add_zero] at q0
        generalize (b[4 * k]?.getD 0).toNat = x0 at q0 l0 hwd
        generalize (b[4 * k + 1]?.getD 0).toNat = x1 at q1 l1 hwd
        generalize (b[4 * k + 2]?.getD 0).toNat = x2 at q2 l2 hwd
        generalize (b[4 * k + 3]?.getD 0).toNat = x3 at q3 l3 hwd
        have HW := hide hwd
        have HO := hide hown
        clear hq hwd hown
        go_wp2
        refine wp_loop_rounds 5 ?_
        rw [rounds_succ]
        go_wp2
        rw [rounds_succ]
        go_wp2
        rw [rounds_succ]
        go_wp2
        rw [rounds_succ]
        go_wp2
        rw [rounds_succ]
        go_wp2_with (at_builtin; refine wpList_append_word rfl _ _ rfl w.heap.size _ (wds b k) rfl ?c1 wr.heap.size 1 rfl (wordAt b k) ((((x0 : Int) * 256 + x1) * 256 + x2) * 256 + x3) ?c0 ?c2 ?c3 ?c4 ?_)
        case c0 => rw [HW.out]; omega
        case c1 => exact HO.out.below ((Below.refl _ _).alloc (Nat.le_refl _) _)
        case c2 => exact (Blk.made wr _ _).cell 0
        case c3 => rw [wds_length]; omega
        case c4 => simp; omega
        intro v' w1 HO' HG
        go_wp2
        refine ⟨⟨_, k + 1, rfl, by go_num, by omega, ?_, own_below (hbel.alloc hsz _) (HO.out.below ((Below.refl _ _).alloc (Nat.le_refl _) _)) (by simp; omega) HG.out⟩, by simp [intOf]; omega⟩
        have h := HO'.out
        rw [wds, if_pos h16]; exact h
      · obtain ⟨g, cap, rfl⟩ := hown.form (by rw [wds_length]; omega)
        rw [wds_length] at hown ⊢
        have hL (j : Nat) (hj : j < k) : (wds b k)[j]?.getD 0 < 4294967296 := by
          have hl : j < (wds b k).length := by rw [wds_length]; exact hj
          rw [List.getElem?_eq_getElem hl]
          exact wds_lt b k _ (List.getElem_mem hl)
        have hnx : wnext (wds b k) = (s1 ((wds b k)[k - 2]?.getD 0) + (wds b k)[k - 7]?.getD 0 + s0 ((wds b k)[k - 15]?.getD 0) + (wds b k)[k - 16]?.getD 0) % 4294967296 := by rw [wnext, wds_length]
        obtain ⟨j2, e2⟩ : ∃ j, j = k - 2 := ⟨_, rfl⟩
        obtain ⟨j7, e7⟩ : ∃ j, j = k - 7 := ⟨_, rfl⟩
        obtain ⟨j15, e15⟩ : ∃ j, j = k - 15 := ⟨_, rfl⟩
        obtain ⟨j16, e16⟩ : ∃ j, j = k - 16 := ⟨_, rfl⟩
        rw [← e2, ← e7, ← e15, ← e16] at hnx
        have hq (j : Nat) (hj : j < k) (w' : World) (ho : OwnsW w' w.heap.size (.slice (some ⟨g, 0, none⟩) k cap) (wds b k)) := ho.at j (by rw [wds_length]; exact hj)
        have Q2 := hide (hq j2 (by omega))
        have Q7 := hide (hq j7 (by omega))
        have Q15 := hide (hq j15 (by omega))
        have Q16 := hide (hq j16 (by omega))
        have l2 := hL j2 (by omega)
        have l7 := hL j7 (by omega)
        have l15 := hL j15 (by omega)
        have l16 := hL j16 (by omega)
        generalize (wds b k)[j2]?.getD 0 = x2 at Q2 l2 hnx
        generalize (wds b k)[j7]?.getD 0 = x7 at Q7 l7 hnx
        generalize (wds b k)[j15]?.getD 0 = x15 at Q15 l15 hnx
        generalize (wds b k)[j16]?.getD 0 = x16 at Q16 l16 hnx
        have n2 : (k : Int) - 2 = j2 := by omega
        have n7 : (k : Int) - 7 = j7 := by omega
        have n15 : (k : Int) - 15 = j15 := by omega
        have n16 : (k : Int) - 16 = j16 := by omega
        have m2 := wrapi64_nat j2 (by omega)
        have m7 := wrapi64_nat j7 (by omega)
        have m15 := wrapi64_nat j15 (by omega)
        have m16 := wrapi64_nat j16 (by omega)
        have b2 : (j2 : Int) < k := by omega
        have b7 : (j7 : Int) < k := by omega
        have b15 : (j15 : Int) < k := by omega
        have b16 : (j16 : Int) < k := by omega
        have b2' : j2 < k := by omega
        have b7' : j7 < k := by omega
        have b15' : j15 < k := by omega
        have b16' : j16 < k := by omega
        have q2 := Q2.out wr hown
        have q15 := Q15.out wr hown
        have HR7 := hide (fun w => turned_b w x15 7 l15 (by decide))
        have HR18 := hide (fun w => turned_b w x15 18 l15 (by decide))
        have HR3 := hide (fun w => rright_b w x15 3 l15 (by decide))
        have HR17 := hide (fun w => turned_b w x2 17 l2 (by decide))
        have HR19 := hide (fun w => turned_b w x2 19 l2 (by decide))
        have HR10 := hide (fun w => rright_b w x2 10 l2 (by decide))
        have z1 := xor64_nat (rr 7 x15) (rr 18 x15) (rr_lt 7 x15 (by decide) l15) (rr_lt 18 x15 (by decide) l15)
        have z2 : bits .xor .u64 ((rr 7 x15 ^^^ rr 18 x15 : Nat) : Int) ((x15 / 2 ^ 3 : Nat) : Int) = ((s0 x15 : Nat) : Int) := xor64_nat _ (x15 / 8) (xor_lt (rr_lt 7 x15 (by decide) l15) (rr_lt 18 x15 (by decide) l15)) (by omega)
        have z3 := xor64_nat (rr 17 x2) (rr 19 x2) (rr_lt 17 x2 (by decide) l2) (rr_lt 19 x2 (by decide) l2)
        have z4 : bits .xor .u64 ((rr 17 x2 ^^^ rr 19 x2 : Nat) : Int) ((x2 / 2 ^ 10 : Nat) : Int) = ((s1 x2 : Nat) : Int) := xor64_nat _ (x2 / 1024) (xor_lt (rr_lt 17 x2 (by decide) l2) (rr_lt 19 x2 (by decide) l2)) (by omega)
        have ls0 := s0_lt l15
        have ls1 := s1_lt l2
        generalize rr 7 x15 ^^^ rr 18 x15 = y1 at z1 z2
        generalize rr 17 x2 ^^^ rr 19 x2 = y2 at z3 z4
        generalize rr 7 x15 = r7 at z1 HR7
        generalize rr 18 x15 = r18 at z1 HR18
        generalize rr 17 x2 = r17 at z3 HR17
        generalize rr 19 x2 = r19 at z3 HR19
        generalize x15 / 2 ^ 3 = d3 at z2 HR3
        generalize x2 / 2 ^ 10 = d10 at z4 HR10
        generalize s0 x15 = t0 at z2 hnx ls0
        generalize s1 x2 = t1 at z4 hnx ls1
        have z5 : ((t1 : Int) + x7 + t0 + x16) % 4294967296 = ((wnext (wds b k) : Nat) : Int) := by rw [hnx]; omega
        have HO := hide hown
        have HNX := hide hnx
        clear hown hq hL hnx e2 e7 e15 e16
        go_wp2_with fail
        refine (HR7.out _).mono ?_
        rintro e w1 ⟨rfl, hb1⟩
        have HO1 := hide (HO.out.below hb1)
        have hl1 := hbel.trans (hb1.mono hsz)
        clear HO hb1 q2 q15 hbel
        go_wp2_with fail
        refine (HR18.out _).mono ?_
        rintro e w2 ⟨rfl, hb2⟩
        have HO2 := hide (HO1.out.below hb2)
        have hl2 := hl1.trans (hb2.mono hl1.size)
        clear HO1 hb2 hl1
        go_wp2_with fail
        refine (HR3.out _).mono ?_
        rintro e w3 ⟨rfl, hb3⟩
        have HO3 := hide (HO2.out.below hb3)
        have hl3 := hl2.trans (hb3.mono hl2.size)
        clear HO2 hb3 hl2
        go_wp2_with fail
        refine (HR17.out _).mono ?_
        rintro e w4 ⟨rfl, hb4⟩
        have HO4 := hide (HO3.out.below hb4)
        have hl4 := hl3.trans (hb4.mono hl3.size)
        clear HO3 hb4 hl3
        go_wp2_with fail
        refine (HR19.out _).mono ?_
        rintro e w5 ⟨rfl, hb5⟩
        have HO5 := hide (HO4.out.below hb5)
        have hl5 := hl4.trans (hb5.mono hl4.size)
        clear HO4 hb5 hl4
        go_wp2_with fail
        refine (HR10.out _).mono ?_
        rintro e w6 ⟨rfl, hb6⟩
        have HO6 := hide (HO5.out.below hb6)
        have hl6 := hl5.trans (hb6.mono hl5.size)
        have q7 := Q7.out w6 HO6.out
        have q16 := Q16.out w6 HO6.out
        clear HO5 hb6 hl5
        go_wp2
        go_quiet (fail)
        obtain ⟨wn, hwn⟩ : ∃ wn, wn = w6.drewN nq := ⟨_, rfl⟩
        have hbn : Below w6.heap.size w6 wn := by rw [hwn]; exact below_drew' _ _ _
        rw [← hwn]
        have HOn := hide (HO6.out.below hbn)
        have hln := hl6.trans (hbn.mono hl6.size)
        have hszn := hln.size
        clear hwn hbn q7 q16 HO6 hl6 Q2 Q7 Q15 Q16
        go_wp2_with (at_builtin; refine wpList_append_word rfl _ _ rfl w.heap.size _ (wds b k) rfl ?d1 wn.heap.size 1 rfl (wnext (wds b k)) ((wnext (wds b k) : Nat) : Int) rfl ?d2 ?d3 ?d4 ?_)
        case d1 => exact HOn.out.below ((Below.refl _ _).alloc (Nat.le_refl _) _)
        case d2 => exact (Blk.made wn _ _).cell 0
        case d3 => rw [wds_length]; omega
        case d4 => simp; omega
        intro v' w7 HO' HG
        go_wp2
        refine ⟨⟨_, k + 1, rfl, by go_num, by omega, ?_, own_below (hln.alloc hszn _) (HOn.out.below ((Below.refl _ _).alloc (Nat.le_refl _) _)) (by simp; omega) HG.out⟩, by simp [intOf]; omega⟩
        have h := HO'.out
        rw [wds, if_neg h16]; exact h
    · have HO := hide hown
      clear hown
      obtain rfl : k = 64 := by omega
      go_wp2
      go_ret
      exact ⟨_, rfl, HO.out, hbel⟩
end Go.Proofs.YtjmjnecobaoofaaDoor
