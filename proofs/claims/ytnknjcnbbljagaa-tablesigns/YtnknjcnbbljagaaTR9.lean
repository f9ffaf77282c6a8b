/- The document's table in memory: PutAs, Put. -/
import Derived.Test.YtnknjcnbbljagaaTR8
import Derived.Test.YtnknjcnbbljagaaTM3
namespace Go.Proofs.Ytnknjcnbbljagaa
set_option linter.unusedVariables false
set_option linter.unusedSimpArgs false
namespace RR
set_option maxRecDepth 100000
open Go.RowKit

theorem dbl_min (l : Nat) : ∀ f n, dbl l f n = n ∨ ∃ m, n ≤ m ∧ dbl l f n = 2 * m ∧ m < l := by
  intro f
  induction f with
  | zero => intro n; exact .inl rfl
  | succ f ih =>
    intro n
    unfold dbl
    split
    · next h =>
      rcases ih (2 * n) with e | ⟨m, h1, h2, h3⟩
      · exact .inr ⟨n, Nat.le_refl _, e, h⟩
      · exact .inr ⟨m, by omega, h2, h3⟩
    · exact .inl rfl
theorem grow_loop {a l g : Nat} (hl : 2 * l + 2 ≤ 2 ^ a * 2 ^ 64) (hg : growN (2 ^ a) l = 2 ^ g) (c : Nat) (hc : c ≤ g) : (2 ^ c < 2 ^ a ∨ 2 ^ c < 2 * l + 2) ↔ c < g := by
  have h1 := dbl_ge (2 * l + 2) 64 (2 ^ a)
  have h2 := dbl_reach (2 * l + 2) 64 (2 ^ a) hl
  have h3 := dbl_min (2 * l + 2) 64 (2 ^ a)
  have e : dbl (2 * l + 2) 64 (2 ^ a) = 2 ^ g := hg
  rw [e] at h1 h2 h3
  constructor
  · intro h
    rcases Nat.lt_or_ge c g with h4 | h4
    · exact h4
    · obtain rfl : c = g := by omega
      omega
  · intro h
    have h4 : 2 ^ (c + 1) ≤ 2 ^ g := Nat.pow_le_pow_right (by decide) h
    rw [Nat.pow_succ] at h4
    have h5 : 0 < 2 ^ c := Nat.pow_pos (by decide)
    rcases h3 with h3 | ⟨m, _, h3, h6⟩
    · left; omega
    · right; omega
section
variable {z gy ge : Nat} {ti ma : Int} {T : TR}
theorem RowR.setV {w : World} {g : Nat} {L : List SR} (h : RowR w g L) (p : Nat) (hp : p < L.length) {k' : KR} {v' : Int} (hs : sat L p = .ful k' v') (v : Int) : RowR (w.setCell ⟨g, p * 4 + 3, none⟩ (.int .i64 v)) g (L.set p (.ful k' v)) := by
  obtain ⟨cur, hb, hc⟩ := h.row
  have h3 := hb.set (p * 4 + 3) (.int .i64 v)
  have old : ∀ o, w.cell? ⟨g, o, none⟩ = cur[o]? := fun o => hb.cell o
  refine ⟨⟨_, h3, by simpa using hc⟩, fun q hq => ?_, fun q hq => ?_, fun q hq => ?_, fun q hq => ?_⟩
  · rw [List.length_set] at hq
    rw [h3.cell, sat_set hp, Array.getElem?_setIfInBounds_ne (by omega), ← old, h.c0 q hq]
    by_cases e : q = p
    · subst e; rw [if_pos rfl, hs]; rfl
    · rw [if_neg e]
  · rw [List.length_set] at hq
    rw [h3.cell, sat_set hp, Array.getElem?_setIfInBounds_ne (by omega), ← old, h.c1 q hq]
    by_cases e : q = p
    · subst e; rw [if_pos rfl, hs]; rfl
    · rw [if_neg e]
  · rw [List.length_set] at hq
    rw [h3.cell, sat_set hp, Array.getElem?_setIfInBounds_ne (by omega), ← old, h.c2 q hq]
    by_cases e : q = p
    · subst e; rw [if_pos rfl, hs]; rfl
    · rw [if_neg e]
  · rw [List.length_set] at hq
    rw [h3.cell, sat_set hp]
    by_cases e : q = p
    · subst e; rw [if_pos rfl, Array.getElem?_setIfInBounds_self_of_lt (by omega)]; rfl
    · rw [if_neg e, Array.getElem?_setIfInBounds_ne (by omega), ← old, h.c3 q hq]
theorem TrK.setV {w : World} (h : TbR w z gy ge ti ma T) (p : Nat) (hp : p < T.y.length) {k' : KR} {v' : Int} (hs : sat T.y p = .ful k' v') (v : Int) : TrK w (w.setCell ⟨gy, p * 4 + 3, none⟩ (.int .i64 v)) z gy ge ti ma ⟨T.y.set p (.ful k' v), T.e, T.m⟩ := by
  refine ⟨⟨?_, h.ry.setV p hp hs v, fun e => (h.re e).same (heap_setCell_other _ _ _ _ (fun q => h.ne e q.symm)), h.ne, h.nil, by simpa using h.by', h.be, h.mt⟩, Frm.set _ _ _ _ _ (.inr (.inl rfl))⟩
  show Blk _ z (tbR ti ma gy ge (T.y.set p (.ful k' v)).length T.e.length T.m) _
  rw [List.length_set]
  exact h.blk.setOther _ _ h.zy
theorem TrS.grown {w W : World} (h : TrK w W z gy ge ti ma T) (G : Nat) (hG : G ≤ 8796093022208) (h0 : 0 < T.y.length) :
    TrS w (((((W.setCell ⟨z, 3, none⟩ (.slice (some ⟨gy, 0, none⟩) T.y.length T.y.length)).setCell ⟨z, 4, none⟩ (.bool true)).setCell ⟨z, 5, none⟩ (.int .i64 0)).setCell ⟨z, 2, none⟩ (.slice (some ⟨W.heap.size, 0, none⟩) G G)).alloc (rowR G)) z gy ge ti ma ⟨List.replicate G .emp, T.y, 0⟩ := by
  obtain ⟨W3, hW3⟩ : ∃ X, X = (((W.setCell ⟨z, 3, none⟩ (.slice (some ⟨gy, 0, none⟩) T.y.length T.y.length)).setCell ⟨z, 4, none⟩ (.bool true)).setCell ⟨z, 5, none⟩ (.int .i64 0)).setCell ⟨z, 2, none⟩ (.slice (some ⟨W.heap.size, 0, none⟩) G G) := ⟨_, rfl⟩
  have hsz : W3.heap.size = W.heap.size := by rw [hW3]; simp
  have hb3 := (((h.tb.blk.set 3 (.slice (some ⟨gy, 0, none⟩) T.y.length T.y.length)).set 4 (.bool true)).set 5 (.int .i64 0)).set 2 (.slice (some ⟨W.heap.size, 0, none⟩) G G)
  rw [← hW3] at hb3
  have hzy := h.tb.zy.symm
  have hy3 : W3.heap[gy]? = W.heap[gy]? := by rw [hW3, heap_setCell_other _ _ _ _ hzy, heap_setCell_other _ _ _ _ hzy, heap_setCell_other _ _ _ _ hzy, heap_setCell_other _ _ _ _ hzy]
  have hf3 : Frm w W3 (TbB z gy ge) := by rw [hW3]; exact (((h.fr.put _ _ _ (.inl rfl)).put _ _ _ (.inl rfl)).put _ _ _ (.inl rfl)).put _ _ _ (.inl rfl)
  rw [← hW3]
  have hyl := h.tb.ry.lt
  have hzl := h.tb.blk.lt
  have hr := row_made W3 G
  rw [hsz] at hr
  have hzb := hb3.alloc (rowR G)
  have y0 : T.y.length ≠ 0 := by omega
  have e0 : oldV gy T.y.length = .slice (some ⟨gy, 0, none⟩) T.y.length T.y.length := by unfold oldV; rw [if_neg y0]
  refine ⟨⟨W.heap.size, gy, ⟨?_, hr, fun _ => ?_, fun _ => by omega, fun e => absurd e y0, by simpa using hG, h.tb.by', Nat.zero_le _⟩, fun k hk => ?_⟩, ?_⟩
  · show Blk _ z (tbR ti ma W.heap.size gy (List.replicate G (Slt.emp : SR)).length T.y.length 0) _
    rw [List.length_replicate]
    unfold tbR
    rw [e0, show decide (T.y.length ≠ 0) = true by simp [y0]]
    unfold tbR at hzb
    exact hzb
  · refine h.tb.ry.same ?_
    rw [Below.heap_alloc W3 _ _ (by omega), hy3]
  · rcases hk with e | e | e
    · exact .inl (.inl e)
    · right; have := h.fr.size; omega
    · exact .inl (.inr (.inl e))
  · exact hf3.trans (Frm.of_below (S := fun _ => False) (below_alloc W3 (rowR G))) (fun _ _ h => h.elim)
def PutC (w : World) (z gy ge : Nat) (ti ma : Int) (T : TR) (k : KR) (v : Int) (e : Ending) (w' : World) : Prop := e = .returned (ansR (stepT (hsR ti ma) T) (seek eqR (hsR ti ma) (stepT (hsR ti ma) T) k).1) ∧ TrS w w' z gy ge ti ma (putT eqR (hsR ti ma) T k v)
/-- Behind its step, a table may be put into. -/
structure PutOk (ti ma : Int) (T1 : TR) (k : KR) (v : Int) : Prop where
  ok : Ok8 T1
  gr : GrowOk (⟨lay T1.y (hsR ti ma k) k v, T1.e, T1.m⟩ : TR)
  pw : ∃ a, 3 ≤ a ∧ T1.y.length = 2 ^ a
set_option maxHeartbeats 2000000 in
theorem putAs_any (w : World) (H : TbR w z gy ge ti ma T) (ho : Ok8 T) (k : KR) (v : Int) (hp : PutOk ti ma (stepT (hsR ti ma) T) k v) : Calls Try.prog 45 #[.pointer (some ⟨z, 0, none⟩), .int .i64 k.1, .int .i64 k.2, .int .i64 v] w (PutC w z gy ge ti ma T k v) := by
  have HStep := hide (step_any w H ho)
  have HH := hide H
  have HPO := hide hp
  clear H ho hp
  go_enter Try.func45, Try.ntmps45
  go_upto_region 2 with (go_at_call 84; refine HStep.out.mono ?_; rintro e w1 ⟨rfl, hst⟩; have HST := hide hst; clear hst)
  obtain ⟨⟨gy1, ge1, ht, hnw⟩, hfr⟩ := HST.out
  obtain ⟨T1, hT1⟩ : ∃ X, X = stepT (hsR ti ma) T := ⟨_, rfl⟩
  have HC : Hid (∀ e w', e = Ending.returned (ansR T1 (seek eqR (hsR ti ma) T1 k).1) → TrS w1 w' z gy1 ge1 ti ma (putG eqR (hsR ti ma) T1 k v) → PutC w z gy ge ti ma T k v e w') := hide (by
    intro e w' h1 h2
    rw [hT1] at h1 h2
    exact ⟨h1, TrS.trans hfr hnw h2⟩)
  rw [← hT1] at ht HPO
  clear hT1 HST HStep hfr hnw HH
  have c2 := ht.c2
  have c4 := ht.c4
  have hz := ht.blk.lt
  have b1 := ht.by'
  have b2 := ht.be
  have HT := hide ht
  unfold putG at HC
  cases hy : find eqR T1.y (hsR ti ma k) k with
  | mk r n =>
    have HY := hide (ht.findY k hy)
    cases r with
    | some p =>
      have hsk : seek eqR (hsR ti ma) T1 k = (some (false, p), n) := by unfold seek; rw [hy]
      rw [hsk] at HC
      obtain ⟨hp, k', v', hs', _⟩ := find_some hy
      have z3 := val_row ht.ry hp
      have HR : Hid (repS v (sat T1.y p) = .ful k' v) := hide (by rw [hs']; rfl)
      have HK := hide (fun q => TrK.setV (ht.drewN q) p hp hs' v)
      have g3 : w1.frozen? ⟨gy1, p * 4 + 3, none⟩ = false := by obtain ⟨cur, hb, _⟩ := ht.ry.row; exact hb.frozen _
      have HV : Hid (valT 0 T1 (some (false, p)) = valS 0 (sat T1.y p)) := hide rfl
      have hpi : (p : Int) < (T1.y.length : Int) := by omega
      have hg := ht.ry.lt
      unfold fndR at HY
      dsimp only at HY
      clear ht hy c4 hsk hp hs'
      generalize valS 0 (sat T1.y p) = y at *
      generalize hny : T1.y.length = ny at *
      obtain ⟨kk, tt⟩ := k
      dsimp only at HY ⊢
      go_wp2_with (go_at_call 85; refine (HY.out 0).mono ?_; rintro e w' ⟨rfl, q1, hw⟩; rw [hw]; clear hw)
      go_returns
      refine HC.out _ _ (by unfold ansR; rw [HV.out]; rfl) ?_
      show TrS w1 _ z gy1 ge1 ti ma ⟨T1.y.set p (repS v (sat T1.y p)), T1.e, T1.m⟩
      rw [HR.out]
      exact (((TrK.refl HT.out).drewN _).trans (HK.out _)).s
    | none =>
      by_cases h0 : T1.e.length = 0
      · have hsk : seek eqR (hsR ti ma) T1 k = (none, n + 0) := by unfold seek; rw [hy, find_nil0 h0]
        rw [hsk] at HC
        rw [show decide (T1.e.length ≠ 0) = false by simp [h0]] at c4
        unfold fndR at HY
        dsimp only at HY
        have HE0 := hide h0
        have HLy := hide (fun q => lay_k (w1.drewN q) (ht.drewN q) k v)
        obtain ⟨T2, hT2⟩ : ∃ X, X = (⟨lay T1.y (hsR ti ma k) k v, T1.e, T1.m⟩ : TR) := ⟨_, rfl⟩
        rw [← hT2] at HLy
        have HG2 : Hid (GrowOk T2) := hide (by rw [hT2]; exact HPO.out.gr)
        have he2 : T2.e.length = 0 := by rw [hT2]; exact h0
        have hm2 : T2.m = 0 := by
          rcases HPO.out.ok with h | h
          · rw [hT2]; exact h.2
          · omega
        obtain ⟨a, ha, hya⟩ := HPO.out.pw
        have hy2 : T2.y.length = 2 ^ a := by rw [hT2]; show (lay T1.y _ k v).length = _; rw [lay_length]; exact hya
        have HC2 : Hid (∀ w', TrS w1 w' z gy1 ge1 ti ma (growT T2) → PutC w z gy ge ti ma T k v (.returned (.tuple #[.int .i64 0, .bool false])) w') := hide (fun w' h => HC.out _ _ rfl (by
          show TrS w1 w' z gy1 ge1 ti ma (growT (⟨lay T1.y (hsR ti ma k) k v, T1.e, T1.m⟩ : TR))
          rw [← hT2]; exact h))
        clear ht hy hsk hT2 h0 HE0 HC HPO hya
        generalize T1.y.length = ny at *
        obtain ⟨kk, tt⟩ := k
        dsimp only at HY HLy ⊢
        go_upto_region 14 with (go_at_call 85; refine (HY.out 0).mono ?_; rintro e w' ⟨rfl, q1, hw⟩; rw [hw]; clear hw)
        go_upto_region 15 with (go_at_call 86; refine (HLy.out _).mono ?_; rintro e w3 ⟨rfl, hk3⟩; have HK3 := hide hk3; clear hk3)
        refine name_world (fun W => TrK w1 W z gy1 ge1 ti ma T2) (((TrK.refl HT.out).drewN _).trans HK3.out) ?_
        rintro W hW
        clear HK3 HLy HY c2 c4 hz
        have HW := hide hW
        have b3 := hW.tb.by'
        have c4 := hW.tb.c4
        rw [show decide (T2.e.length ≠ 0) = false by simp [he2]] at c4
        have c2 := hW.tb.c2
        have hz := hW.tb.blk.lt
        have x1 := cnt_le T2.y 1
        have x2 := cnt_le T2.y 2
        have HQ1 : Hid (∀ q, Calls Try.prog 87 #[.slice (some ⟨gy1, 0, none⟩) T2.y.length T2.y.length, .int .i64 1] (W.drewN q) fun e w' => e = .returned (.int .i64 (cnt T2.y 1 : Int)) ∧ ∃ q', w' = (W.drewN q).drewN q') := hide (fun q => (count_any (W.drewN q) (some ⟨gy1, 0, none⟩) T2.y.length T2.y.length gy1 1 T2.y rfl (fun _ => ⟨rfl, (hW.tb.drewN q).ry⟩) hW.tb.by').mono (fun e w' h => ⟨h.1, 0, h.2⟩))
        have HQ2 : Hid (∀ q, Calls Try.prog 87 #[.slice (some ⟨gy1, 0, none⟩) T2.y.length T2.y.length, .int .i64 2] (W.drewN q) fun e w' => e = .returned (.int .i64 (cnt T2.y 2 : Int)) ∧ ∃ q', w' = (W.drewN q).drewN q') := hide (fun q => (count_any (W.drewN q) (some ⟨gy1, 0, none⟩) T2.y.length T2.y.length gy1 2 T2.y rfl (fun _ => ⟨rfl, (hW.tb.drewN q).ry⟩) hW.tb.by').mono (fun e w' h => ⟨h.1, 0, h.2⟩))
        have HLen := hide (fun q => len_any (W.drewN q) (hW.tb.drewN q))
        have HX := hide (rfl : T2.y.length = T2.y.length)
        have hlen : T2.len ≤ 8796093022208 := by
          have := cnt_le T2.e 1
          unfold Tb.len; omega
        have hleft : T2.left = 0 := by unfold Tb.left; omega
        by_cases hg : 4 * (cnt T2.y 1 + cnt T2.y 2) ≤ 3 * T2.y.length
        · have HGT : Hid (growT T2 = T2) := hide (by unfold growT; exact if_pos (.inr hg))
          clear hW hy2 he2 hm2 hleft
          generalize cnt T2.y 1 = x at *
          generalize cnt T2.y 2 = y at *
          generalize T2.y.length = nn at *
          have hx : x ≤ 8796093022208 := by omega
          have hy : y ≤ 8796093022208 := by omega
          have hgi : ¬ 4 * ((x : Int) + (y : Int)) > 3 * (nn : Int) := by omega
          have hgj : ¬ 3 * (nn : Int) < 4 * ((x : Int) + (y : Int)) := by omega
          go_quiet ((go_at_call 87; first | with_reducible exact Calls.quiet_of (HQ1.out _) | with_reducible exact Calls.quiet_of (HQ2.out _)))
          go_wp2
          go_returns
          exact HC2.out _ (by rw [HGT.out]; exact (HW.out.drewN _).s)
        · obtain ⟨G, hGG⟩ : ∃ G, G = growN T2.y.length T2.len := ⟨_, rfl⟩
          have hGb : G ≤ 8796093022208 := by rw [hGG]; exact HG2.out hleft (by omega)
          have HGT : Hid (growT T2 = ⟨List.replicate G .emp, T2.y, 0⟩) := hide (by
            unfold growT
            rw [if_neg (by intro h; rcases h with h | h; exact h hleft; exact hg h), hGG, hm2])
          obtain ⟨g, hg1, hg2⟩ : ∃ g, a ≤ g ∧ growN T2.y.length T2.len = 2 ^ g := by rw [hy2]; exact dbl_pow _ 64 a
          have h2a : 0 < 2 ^ a := Nat.pow_pos (by decide)
          have HLoop : Hid (∀ c, c ≤ g → ((2 ^ c < T2.y.length ∨ 2 ^ c < 2 * T2.len + 2) ↔ c < g)) := hide (fun c hc => by
            rw [hy2]
            rw [hy2] at hg2
            exact grow_loop (by omega) hg2 c hc)
          have HGp : Hid (G = 2 ^ g ∧ 3 ≤ g) := hide ⟨by rw [hGG, hg2], by omega⟩
          have HY0 : Hid (0 < T2.y.length) := hide (by omega)
          have HG8 : 8 ≤ G := by rw [HGp.out.1]; exact Nat.pow_le_pow_right (n := 2) (by decide) (show 3 ≤ g by omega)
          clear hW hGG hg2 hg1 h2a HG2 hy2 he2 hm2 hleft
          generalize cnt T2.y 1 = x at *
          generalize cnt T2.y 2 = y at *
          generalize hlt2 : T2.len = lt at *
          generalize hnn2 : T2.y.length = nn at *
          have hx : x ≤ 8796093022208 := by omega
          have hy : y ≤ 8796093022208 := by omega
          have hgi : 4 * ((x : Int) + (y : Int)) > 3 * (nn : Int) := by omega
          have hgj : 3 * (nn : Int) < 4 * ((x : Int) + (y : Int)) := by omega
          go_quiet ((go_at_call 87; first | with_reducible exact Calls.quiet_of (HQ1.out _) | with_reducible exact Calls.quiet_of (HQ2.out _)))
          go_upto_region 17 with fail
          clear HQ1 HQ2 hgi hgj hg
          go_loopw [14] (fun t wr => ∃ (m q : Nat), t = .int .i64 m ∧ wr = W.drewN q ∧ m ≤ G ∧ 0 < m ∧ Hid (∃ c, c ≤ g ∧ m = 2 ^ c)) (fun t _ => 8796093022209 - (intOf t).toNat)
          case atStart => exact ⟨8, _, rfl, rfl, HG8, by decide, hide ⟨3, HGp.out.2, rfl⟩⟩
          case round =>
            obtain ⟨m, q, rfl, rfl, hmG, hm0, hmc⟩ := hrel
            have HNq := hide (HLen.out q)
            have HUp : Hid ((m < nn ∨ m < 2 * lt + 2) → 2 * m ≤ G ∧ ∃ c, c ≤ g ∧ 2 * m = 2 ^ c) := hide (by
              intro h
              obtain ⟨c, hc, rfl⟩ := hmc.out
              have hcg := (HLoop.out c hc).1 h
              have e : 2 * 2 ^ c = 2 ^ (c + 1) := by rw [Nat.pow_succ, Nat.mul_comm]
              exact ⟨by rw [HGp.out.1, e]; exact Nat.pow_le_pow_right (by decide) hcg, c + 1, hcg, e⟩)
            by_cases hn : m < nn
            · have hni : (m : Int) < (nn : Int) := by omega
              have HU := hide (HUp.out (.inl hn))
              have hm2' : m ≤ 8796093022208 := by omega
              go_wp2
              go_roundw
              case rel => exact ⟨2 * m, _, by congr 1; omega, rfl, HU.out.1, by omega, hide HU.out.2⟩
              case measure => simp [intOf]; have := HU.out.1; omega
            · by_cases hl2 : m < 2 * lt + 2
              · have hni : ¬ (m : Int) < (nn : Int) := by omega
                have hli : (m : Int) < 2 * (lt : Int) + 2 := by omega
                have HU := hide (HUp.out (.inr hl2))
                have hm2' : m ≤ 8796093022208 := by omega
                go_wp2_with (go_at_call 55; refine HNq.out.mono ?_; rintro e w' ⟨rfl, q2, hw⟩; rw [hw]; clear hw)
                go_roundw
                case rel => exact ⟨2 * m, _, by congr 1; omega, rfl, HU.out.1, by omega, hide HU.out.2⟩
                case measure => simp [intOf]; have := HU.out.1; omega
              · have hni : ¬ (m : Int) < (nn : Int) := by omega
                have hli : ¬ (m : Int) < 2 * (lt : Int) + 2 := by omega
                have HMG : Hid (m = G) := hide (by
                  obtain ⟨c, hc, rfl⟩ := hmc.out
                  have h1 := HLoop.out c hc
                  have h2 : ¬ c < g := fun h => by
                    rcases h1.2 h with h | h
                    · exact hn h
                    · exact hl2 h
                  rw [HGp.out.1, show c = g by omega])
                clear HLoop HUp hmc
                go_upto_region 19 with (go_at_call 55; refine HNq.out.mono ?_; rintro e w' ⟨rfl, q2, hw⟩; rw [hw]; clear hw)
                obtain ⟨ao, c3, _⟩ := HW.out.tb.c3
                obtain ⟨m5, c5⟩ : ∃ q : Nat, W.cell? ⟨z, 5, none⟩ = some (.int .i64 (q : Int)) := ⟨_, HW.out.tb.c5⟩
                have f2 := HW.out.tb.blk.frozen 2
                have f3 := HW.out.tb.blk.frozen 3
                have f4 := HW.out.tb.blk.frozen 4
                have f5 := HW.out.tb.blk.frozen 5
                have hmk := make_r m (by omega)
                generalize T2.e.length = ne2 at *
                clear HNq HLen hni hli
                go_wp2
                go_returns
                refine HC2.out _ ?_
                rw [HGT.out, ← HMG.out]
                have := TrS.grown (HW.out.drewN (q + q2)) m (by have := HMG.out; omega) (by rw [hnn2]; exact HY0.out)
                rw [hnn2] at this
                exact this
      · obtain ⟨ao, c3, hao⟩ := ht.c3
        obtain rfl := hao h0
        rw [show decide (T1.e.length ≠ 0) = true by simp [h0]] at c4
        cases he : find eqR T1.e (hsR ti ma k) k with
        | mk r2 n2 =>
          have HE := hide (ht.findE h0 k he)
          cases r2 with
          | some p =>
            have hsk : seek eqR (hsR ti ma) T1 k = (some (true, p), n + n2) := by unfold seek; rw [hy]; dsimp only; rw [he]
            rw [hsk] at HC
            obtain ⟨hp, _⟩ := find_some he
            have hr := ht.re h0
            have z0 := hr.c0 p hp
            have z1 := hr.c1 p hp
            have z2 := hr.c2 p hp
            have z3 := val_row hr hp
            have HFz : Hid (∀ o, w1.frozen? ⟨ge1, o, none⟩ = false) := hide (fun o => by obtain ⟨cur, hb, _⟩ := hr.row; exact hb.frozen o)
            have HV : Hid (valT 0 T1 (some (true, p)) = valS 0 (sat T1.e p)) := hide rfl
            have hpi : (p : Int) < (T1.e.length : Int) := by omega
            have hg := hr.lt
            have g0 := HFz.out (p * 4)
            have g1 := HFz.out (p * 4 + 1)
            have g2 := HFz.out (p * 4 + 2)
            have g3 := HFz.out (p * 4 + 3)
            have HKE := hide (fun q => TrK.putE (ht.drewN q) p hp .tmb)
            unfold fndR at HY HE
            dsimp only at HY HE
            clear ht hy he h0 hao hsk HFz hp hr
            generalize valS 0 (sat T1.e p) = y at *
            generalize ((sat T1.e p).st : Int) = x0 at *
            generalize kR (sat T1.e p) = x1 at *
            generalize tR (sat T1.e p) = x2 at *
            generalize T1.y.length = ny at *
            generalize hne : T1.e.length = ne at *
            have HLy : Hid (∀ w2, TbR w2 z gy1 ge1 ti ma ⟨T1.y, T1.e.set p .tmb, T1.m⟩ → Calls Try.prog 86 #[.pointer (some ⟨z, 0, none⟩), .int .i64 k.1, .int .i64 k.2, .int .i64 v] w2 fun e w' => e = .returned (.tuple #[]) ∧ TrK w2 w' z gy1 ge1 ti ma ⟨lay T1.y (hsR ti ma k) k v, T1.e.set p .tmb, T1.m⟩) := hide (fun w2 h2 => lay_k w2 h2 k v)
            obtain ⟨kk, tt⟩ := k
            dsimp only at HY HE HLy ⊢
            go_upto_region 8 with (go_at_call 85; refine (HY.out 0).mono ?_; rintro e w' ⟨rfl, q1, hw⟩; rw [hw]; clear hw)
            go_upto_region 12 with (go_at_call 85; refine (HE.out _).mono ?_; rintro e w'' ⟨rfl, q2, hw⟩; rw [hw]; clear hw)
            refine name_world (fun W => TrK w1 W z gy1 ge1 ti ma ⟨T1.y, T1.e.set p .tmb, T1.m⟩) (((TrK.refl HT.out).drewN _).trans (HKE.out _)) ?_
            rintro W hW
            have HW := hide hW
            have HLq := hide (HLy.out W hW.tb)
            have hzW := hW.tb.blk.lt
            clear HLy hW
            go_wp2_with (go_at_call 86; refine HLq.out.mono ?_; rintro e w3 ⟨rfl, hk3⟩; have HK3 := hide hk3; clear hk3)
            go_returns
            exact HC.out _ _ (by unfold ansR; rw [HV.out]; rfl) (HW.out.trans HK3.out).s
          | none =>
            have hsk : seek eqR (hsR ti ma) T1 k = (none, n + n2) := by unfold seek; rw [hy]; dsimp only; rw [he]
            rw [hsk] at HC
            unfold fndR at HY HE
            dsimp only at HY HE
            have HLy := hide (fun q => lay_k (w1.drewN q) (ht.drewN q) k v)
            have HE0 := hide h0
            have HGT : Hid (growT (⟨lay T1.y (hsR ti ma k) k v, T1.e, T1.m⟩ : TR) = ⟨lay T1.y (hsR ti ma k) k v, T1.e, T1.m⟩) := hide (by
              unfold growT
              refine if_pos (.inl ?_)
              show T1.e.length - T1.m ≠ 0
              rcases HPO.out.ok with h | h
              · exact absurd h.1 h0
              · omega)
            clear ht hy he h0 hao hsk
            generalize T1.y.length = ny at *
            generalize hne : T1.e.length = ne at *
            obtain ⟨kk, tt⟩ := k
            dsimp only at HY HE HLy ⊢
            go_upto_region 8 with (go_at_call 85; refine (HY.out 0).mono ?_; rintro e w' ⟨rfl, q1, hw⟩; rw [hw]; clear hw)
            go_upto_region 14 with (go_at_call 85; refine (HE.out _).mono ?_; rintro e w'' ⟨rfl, q2, hw⟩; rw [hw]; clear hw)
            go_upto_region 15 with (go_at_call 86; refine (HLy.out _).mono ?_; rintro e w3 ⟨rfl, hk3⟩; have HK3 := hide hk3; clear hk3)
            have d4 := HK3.out.tb.c4
            rw [show decide ((⟨lay T1.y (hsR ti ma (kk, tt)) (kk, tt) v, T1.e, T1.m⟩ : TR).e.length ≠ 0) = true from decide_eq_true (by show T1.e.length ≠ 0; rw [hne]; exact HE0.out)] at d4
            have hz3 := HK3.out.tb.blk.lt
            clear HLy HY HE c2 c3 c4
            go_quiet (fail)
            go_wp2
            go_returns
            refine HC.out _ _ rfl ?_
            show TrS w1 _ z gy1 ge1 ti ma (growT (⟨lay T1.y (hsR ti ma (kk, tt)) (kk, tt) v, T1.e, T1.m⟩ : TR))
            rw [HGT.out]
            exact ((((TrK.refl HT.out).drewN _).trans HK3.out).drewN _).s
theorem put_any (w : World) (H : TbR w z gy ge ti ma T) (ho : Ok8 T) (k v : Int) (hp : PutOk ti ma (stepT (hsR ti ma) T) (k, 0) v) : Calls Try.prog 46 #[.pointer (some ⟨z, 0, none⟩), .int .i64 k, .int .i64 v] w (PutC w z gy ge ti ma T (k, 0) v) := by
  have HP := hide (putAs_any w H ho (k, 0) v hp)
  dsimp only at HP
  have HC : Hid (∀ e w', PutC w z gy ge ti ma T (k, 0) v e w' → ∃ x b, e = .returned (.tuple #[.int .i64 x, .bool b])) := hide (fun e w' h => ⟨_, _, h.1⟩)
  clear H ho hp
  go_enter Try.func46, Try.ntmps46
  go_wp2_with (go_at_call 45; refine HP.out.mono ?_; rintro e w' hk; obtain ⟨x, b, rfl⟩ := HC.out e w' hk; have HK := hide hk; clear hk)
  go_returns
  exact HK.out
end
end RR
end Go.Proofs.Ytnknjcnbbljagaa
