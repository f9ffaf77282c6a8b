/- behind: are lists cut alike from the first cut on that both have? -/
import Derived.Test.YtamajnaeladehaaDoorGL2
namespace Go.Proofs.YtamajnaeladehaaDoor
set_option linter.unusedVariables false
set_option linter.unusedSimpArgs false
open Go.RowKit

/-- What the ints from a place on add up to. -/
def suf (L : List Int) (i : Nat) : Int := (L.drop i).sum
theorem suf_end (L : List Int) : suf L L.length = 0 := by unfold suf; rw [List.drop_of_length_le (Nat.le_refl _)]; rfl
theorem suf_step (L : List Int) (i : Nat) (h : i < L.length) : suf L i = L[i] + suf L (i + 1) := by
  unfold suf; rw [List.drop_eq_getElem_cons h, List.sum_cons]
theorem suf_mono (L : List Int) (hL : ∀ x ∈ L, 1 ≤ x) : ∀ (d i : Nat), i + d ≤ L.length → suf L (i + d) + d ≤ suf L i
  | 0, i, _ => by simp
  | d + 1, i, h => by
    have h1 := suf_mono L hL d (i + 1) (by omega)
    have h2 := suf_step L i (by omega)
    have h3 := hL _ (List.getElem_mem (show i < L.length by omega))
    rw [show i + (d + 1) = i + 1 + d by omega]
    push_cast
    omega
theorem suf_le (L : List Int) (hL : ∀ x ∈ L, 1 ≤ x) (i j : Nat) (h : i ≤ j) (hj : j ≤ L.length) : suf L j ≤ suf L i := by
  have := suf_mono L hL (j - i) i (by omega)
  rw [show i + (j - i) = j by omega] at this
  omega
theorem suf_lt (L : List Int) (hL : ∀ x ∈ L, 1 ≤ x) (i j : Nat) (h : i < j) (hj : j ≤ L.length) : suf L j < suf L i := by
  have := suf_mono L hL (j - i) i (by omega)
  rw [show i + (j - i) = j by omega] at this
  omega
theorem suf_nonneg (L : List Int) (hL : ∀ x ∈ L, 1 ≤ x) (i : Nat) (h : i ≤ L.length) : 0 ≤ suf L i := by
  have := suf_le L hL i L.length h (Nat.le_refl _)
  rw [suf_end] at this
  exact this
/-- A cut that both have within the last n bytes: from it on they are alike. -/
def Alike (L M : List Int) (n : Int) : Prop := ∀ i j, i ≤ L.length → j ≤ M.length → suf L i = suf M j → suf L i ≤ n → L.drop i = M.drop j
/-- Where the first loop stops, no cut further ahead is one of both. -/
theorem no_more (L M : List Int) (n : Int) (hL : ∀ x ∈ L, 1 ≤ x) (hA : Alike L M n) (i j : Nat) (hi : i ≤ L.length) (hj : j ≤ M.length) (hd : L.drop i = M.drop j)
    (hs : ∀ k l, i = k + 1 → j = l + 1 → ¬ (∃ x, L[k]? = some x ∧ M[l]? = some x ∧ suf L i + x ≤ n)) :
    ∀ i' j', i' < i → j' < j → suf L i' ≤ n → suf L i' ≠ suf M j' := by
  intro i' j' h1 h2 h3 h4
  have hd' := hA i' j' (by omega) (by omega) h4 h3
  have e1 := congrArg List.length hd
  have e2 := congrArg List.length hd'
  simp only [List.length_drop] at e1 e2
  refine hs (i - 1) (j - 1) (by omega) (by omega) ⟨L[i - 1]'(by omega), List.getElem?_eq_getElem (by omega), ?_, ?_⟩
  · have e3 := congrArg (·[i - 1 - i']?) hd'
    simp only [List.getElem?_drop] at e3
    rw [show i' + (i - 1 - i') = i - 1 by omega, show j' + (i - 1 - i') = j - 1 by omega] at e3
    rw [← e3, List.getElem?_eq_getElem (by omega)]
  · have e4 := suf_step L (i - 1) (by omega)
    rw [show i - 1 + 1 = i by omega] at e4
    have e5 := suf_le L hL i' (i - 1) (by omega) (by omega)
    omega
def askV (mn me mx : Int) (dv : Value) : Value := .agg #[.int .i64 mn, .int .i64 me, .int .i64 mx, dv]
theorem RdI.cell {w : World} {ao : Option Addr} {n c : Nat} {xs : List Int} (h : RdI w (.slice ao n c) xs) (k : Nat) (hk : k < xs.length) : ∃ g, ao = some ⟨g, 0, none⟩ ∧ w.cell? ⟨g, k, none⟩ = some (.int .i64 xs[k]) := by
  obtain ⟨ao', c', e, _, hf⟩ := h
  cases e
  obtain ⟨g, e2, hc⟩ := hf (by omega)
  exact ⟨g, e2, hc k hk⟩
set_option maxRecDepth 20000 in
set_option maxHeartbeats 2000000 in
theorem behind_any (w : World) (mn me mx : Int) (dv vl vm : Value) (L M : List Int) (a b n : Int) (hl : RdI w vl L) (hm : RdI w vm M) (hL : ∀ x ∈ L, 1 ≤ x) (hM : ∀ x ∈ M, 1 ≤ x) (hn0 : 0 ≤ n) (hn : n ≤ 4611686018427387904) (sL : suf L 0 ≤ 4611686018427387904) (sM : suf M 0 ≤ 4611686018427387904) (hA : Alike L M n) :
    Calls Tryd.prog 28 #[askV mn me mx dv, vl, vm, .int .i64 a, .int .i64 b, .int .i64 n] w fun e w' => e = .returned (.bool true) ∧ Below w.heap.size w w' := by
  unfold askV
  have HB0 := hide ((Below.refl w.heap.size w).alloc (Nat.le_refl _) (.cells #[.int .i64 mn, .int .i64 me, .int .i64 mx, dv] 26))
  have HLw := hide hl
  have HMw := hide hm
  obtain ⟨la, lc, rfl, hll, -⟩ := hl
  obtain ⟨ma, mc, rfl, hml, -⟩ := hm
  have HL := hide hL
  have HM := hide hM
  have HA := hide hA
  clear hL hM hA
  go_enter Tryd.func28, Tryd.ntmps28
  go_wp2
  go_loopw [13, 14, 15, 16] (fun iv jv pv qv wr => ∃ i j : Nat, iv = .int .i64 i ∧ jv = .int .i64 j ∧ i ≤ L.length ∧ j ≤ M.length ∧ pv = .int .i64 (suf L i) ∧ qv = .int .i64 (suf M j) ∧ L.drop i = M.drop j ∧ suf L i ≤ n ∧ Below w.heap.size w wr) (fun iv _ _ _ _ => (intOf iv).toNat)
  case atStart => exact ⟨L.length, M.length, rfl, rfl, by omega, by omega, by rw [suf_end], by rw [suf_end], by rw [List.drop_of_length_le (Nat.le_refl _), List.drop_of_length_le (Nat.le_refl _)], by rw [suf_end]; exact hn0, HB0.out⟩
  case round =>
    obtain ⟨i, j, rfl, rfl, hi, hj, rfl, rfl, hd, hpn, hB⟩ := hrel
    have HBr := hide hB
    have hp0 := suf_nonneg L HL.out i hi
    have HNM0 := hide (no_more L M n HL.out HA.out i j hi hj hd)
    have HIJ := hide hd
    obtain ⟨P, hP⟩ : ∃ P, P = suf L i := ⟨_, rfl⟩
    obtain ⟨Q, hQ⟩ : ∃ Q, Q = suf M j := ⟨_, rfl⟩
    have HPQ : Hid (P = Q) := hide (by rw [hP, hQ]; unfold suf; rw [hd])
    rw [← hP] at hpn hp0 HNM0
    rw [← hP, ← hQ]
    have HPe : Hid (suf L i = P) := hide hP.symm
    have HQe : Hid (suf M j = Q) := hide hQ.symm
    clear hP hQ hd hB HB0
    rcases Nat.eq_zero_or_pos i with hz | hz
    · subst hz
      have HNM : Hid (∀ i' j', i' < 0 → j' < j → suf L i' ≤ n → suf L i' ≠ suf M j') := hide (fun _ _ h => by omega)
      clear HNM0
      go_wp2
      go_quiet (fail)
      clear HIJ
      go_wp2
      go_loopw [13, 15] (fun iv pv wr => ∃ kk : Nat, iv = .int .i64 kk ∧ kk ≤ 0 ∧ pv = .int .i64 (suf L kk) ∧ Below w.heap.size w wr) (fun iv _ _ => (intOf iv).toNat)
      case atStart => exact ⟨0, rfl, Nat.le_refl _, by rw [HPe.out], HBr.out.trans ⟨rfl, rfl, rfl, Nat.le_refl _, fun _ _ => rfl⟩⟩
      case round =>
        clear HBr
        obtain ⟨k2, rfl, hk2, rfl, hB2⟩ := hrel
        have HB2 := hide hB2
        clear hB2
        rcases Nat.eq_zero_or_pos k2 with hz | hz
        · subst hz
          go_wp2
          go_ret
          exact ⟨rfl, HB2.out⟩
        · omega
    obtain ⟨k, rfl⟩ : ∃ k, i = k + 1 := ⟨i - 1, by omega⟩
    have hki : ((k + 1 : Nat) : Int) = (k : Int) + 1 := rfl
    rcases Nat.eq_zero_or_pos j with hz2 | hz2
    · have hj0 : ¬ (0 : Int) < (j : Int) := by omega
      have HJ0 : Hid (j = 0) := hide hz2
      have HNM : Hid (∀ i' j', i' < k + 1 → j' < j → suf L i' ≤ n → suf L i' ≠ suf M j') := hide (fun _ _ _ h => by omega)
      rw [hki]
      clear HNM0 hki
      go_wp2
      go_quiet (fail)
      clear hz2
      clear HIJ
      go_wp2
      go_loopw [13, 15] (fun iv pv wr => ∃ kk : Nat, iv = .int .i64 kk ∧ kk ≤ (k + 1) ∧ pv = .int .i64 (suf L kk) ∧ Below w.heap.size w wr) (fun iv _ _ => (intOf iv).toNat)
      case atStart => exact ⟨(k + 1), rfl, Nat.le_refl _, by rw [HPe.out], HBr.out.trans ⟨rfl, rfl, rfl, Nat.le_refl _, fun _ _ => rfl⟩⟩
      case round =>
        clear HBr
        obtain ⟨k2, rfl, hk2, rfl, hB2⟩ := hrel
        have HB2 := hide hB2
        clear hB2
        rcases Nat.eq_zero_or_pos k2 with hz | hz
        · subst hz
          go_wp2
          go_ret
          exact ⟨rfl, HB2.out⟩
        · obtain ⟨k3, rfl⟩ : ∃ k3, k2 = k3 + 1 := ⟨k2 - 1, by omega⟩
          obtain ⟨lg, hlg, hlc⟩ := (HLw.out.below HB2.out).cell k3 (by omega)
          cases hlg
          have hst := suf_step L k3 (by omega)
          have hp3 := suf_le L HL.out 0 k3 (by omega) (by omega)
          have hp2 := suf_nonneg L HL.out (k3 + 1) (by omega)
          have hlt3 := suf_lt L HL.out k3 (k + 1) (by omega) (by omega)
          rw [HPe.out] at hlt3
          obtain ⟨x, hx⟩ : ∃ x, x = L[k3]'(by omega) := ⟨_, rfl⟩
          have hx1 : 1 ≤ x := by rw [hx]; exact HL.out _ (List.getElem_mem _)
          rw [← hx] at hlc hst
          clear hx
          have HNk := hide (fun j' (h : j' < j) (h2 : suf L k3 ≤ n) => HNM.out k3 j' (by omega) h h2)
          obtain ⟨p2, hp2e⟩ : ∃ p2, p2 = suf L (k3 + 1) := ⟨_, rfl⟩
          obtain ⟨p3, hp3e⟩ : ∃ p3, p3 = suf L k3 := ⟨_, rfl⟩
          rw [← hp2e] at hst hp2 ⊢
          rw [← hp3e] at hst hp3 hlt3 HNk
          have hadd : p2 + x = p3 := by omega
          have hwr : IntKind.i64.wrap p3 = p3 := by simp [IntKind.wrap, IntKind.bits, IntKind.signed]; omega
          have HP3 := hide hp3e
          clear hp2e hp3e hst
          have hk3i : ((k3 + 1 : Nat) : Int) = (k3 : Int) + 1 := rfl
          rw [hk3i]
          clear hk3i
          by_cases hgt : n < p3
          · go_wp2
            go_ret
            exact ⟨rfl, HB2.out⟩
          · go_wp2
            go_loopw [17, 18] (fun rv kv wr => ∃ kk : Nat, kv = .int .i64 kk ∧ kk ≤ j ∧ rv = .int .i64 (suf M kk) ∧ Below w.heap.size w wr) (fun _ kv _ => (intOf kv).toNat)
            case atStart => exact ⟨j, by rw [HJ0.out]; rfl, Nat.le_refl _, by rw [HQe.out], HB2.out⟩
            case round =>
              clear HB2
              obtain ⟨k4, rfl, hk4, rfl, hB4⟩ := hrel
              have HB4 := hide hB4
              clear hB4
              have hr0 := suf_nonneg M HM.out k4 (by omega)
              have hr1 := suf_le M HM.out 0 k4 (by omega) (by omega)
              have HNe : Hid (suf M k4 ≠ p3) := hide (by
                by_cases hkj : k4 < j
                · exact fun e => HNk.out k4 hkj (by omega) e.symm
                · have : k4 = j := by omega
                  rw [this, HQe.out]
                  have := HPQ.out
                  omega)
              by_cases hgo : 0 < k4 ∧ suf M k4 < p3
              · obtain ⟨hk0, hrp⟩ := hgo
                obtain ⟨k5, rfl⟩ : ∃ k5, k4 = k5 + 1 := ⟨k4 - 1, by omega⟩
                obtain ⟨mg, hmg, hmc⟩ := (HMw.out.below HB4.out).cell k5 (by omega)
                cases hmg
                have hst := suf_step M k5 (by omega)
                have hr5 := suf_le M HM.out 0 k5 (by omega) (by omega)
                have hr6 := suf_nonneg M HM.out k5 (by omega)
                obtain ⟨y, hy⟩ : ∃ y, y = M[k5]'(by omega) := ⟨_, rfl⟩
                rw [← hy] at hmc hst
                obtain ⟨r5, hr5e⟩ : ∃ r5, r5 = suf M k5 := ⟨_, rfl⟩
                obtain ⟨r4, hr4e⟩ : ∃ r4, r4 = suf M (k5 + 1) := ⟨_, rfl⟩
                rw [← hr4e] at hst hr0 hr1 hrp ⊢
                rw [← hr5e] at hst hr5 hr6
                have hadd2 : r4 + y = r5 := by omega
                have hwr2 : IntKind.i64.wrap r5 = r5 := by simp [IntKind.wrap, IntKind.bits, IntKind.signed]; omega
                have HR5 := hide hr5e
                clear hy hr4e hr5e hst HNe
                have hk5i : ((k5 + 1 : Nat) : Int) = (k5 : Int) + 1 := rfl
                rw [hk5i]
                clear hk5i
                go_wp2
                exact ⟨⟨k5, by go_num, by omega, by rw [HR5.out], HB4.out⟩, by simp [intOf] <;> omega⟩
              · obtain ⟨r4, hr4e⟩ : ∃ r4, r4 = suf M k4 := ⟨_, rfl⟩
                rw [← hr4e] at hr0 hr1 hgo HNe ⊢
                clear hr4e
                have hnb : (r4 == p3) = false := by simpa using HNe.out
                have hcb : (decide ((0 : Int) < (k4 : Int)) && decide (r4 < p3)) = false := by
                  by_cases h0 : 0 < k4
                  · have : ¬ r4 < p3 := fun h => hgo ⟨h0, h⟩
                    simp [this]
                  · simp; omega
                by_cases h0 : 0 < k4
                · have hn2 : ¬ r4 < p3 := fun h => hgo ⟨h0, h⟩
                  have h0i : (0 : Int) < (k4 : Int) := by omega
                  clear hgo
                  go_wp2
                  go_roundw
                  case rel => exact ⟨k3, by go_num, by omega, by rw [HP3.out], HB4.out⟩
                  case measure => simp [intOf] <;> omega
                · obtain rfl : k4 = 0 := by omega
                  clear hgo
                  go_wp2
                  go_roundw
                  case rel => exact ⟨k3, by go_num, by omega, by rw [HP3.out], HB4.out⟩
                  case measure => simp [intOf] <;> omega
    obtain ⟨l, rfl⟩ : ∃ l, j = l + 1 := ⟨j - 1, by omega⟩
    have hli : ((l + 1 : Nat) : Int) = (l : Int) + 1 := rfl
    obtain ⟨lg, hlg, hlc⟩ := (HLw.out.below HBr.out).cell k (by omega)
    obtain ⟨mg, hmg, hmc⟩ := (HMw.out.below HBr.out).cell l (by omega)
    subst hlg hmg
    have hstL := suf_step L k (by omega)
    have hstM := suf_step M l (by omega)
    have hL0 := suf_le L HL.out 0 k (by omega) (by omega)
    have hM0 := suf_le M HM.out 0 l (by omega) (by omega)
    obtain ⟨x, hx⟩ : ∃ x, x = L[k]'(by omega) := ⟨_, rfl⟩
    obtain ⟨y, hy⟩ : ∃ y, y = M[l]'(by omega) := ⟨_, rfl⟩
    have hx1 : 1 ≤ x := by rw [hx]; exact HL.out _ (List.getElem_mem _)
    have HX : Hid (L[k]? = some x) := hide (by rw [hx]; exact List.getElem?_eq_getElem (by omega))
    have HY : Hid (M[l]? = some y) := hide (by rw [hy]; exact List.getElem?_eq_getElem (by omega))
    rw [← hx] at hlc hstL
    rw [← hy] at hmc hstM
    rw [HPe.out] at hstL
    rw [HQe.out] at hstM
    have HSL := hide hstL
    have HSM := hide hstM
    have hPx : P + x ≤ 4611686018427387904 := by omega
    have hQy : Q + y ≤ 4611686018427387904 := by omega
    have hw1 : IntKind.i64.wrap (P + x) = P + x := by simp [IntKind.wrap, IntKind.bits, IntKind.signed]; omega
    have HQ0 : Hid (0 ≤ Q) := hide (by rw [← HPQ.out]; exact hp0)
    rw [hki, hli]
    clear hki hli hx hy hstL hstM hL0 hM0
    by_cases hxy : x = y
    · subst hxy
      by_cases hle : P + x ≤ n
      · have hw2 : IntKind.i64.wrap (Q + x) = Q + x := by have := HQ0.out; simp [IntKind.wrap, IntKind.bits, IntKind.signed]; omega
        clear HNM0
        go_wp2
        go_quiet (fail)
        go_wp2
        refine ⟨⟨k, l, by go_num, by go_num, by omega, by omega, by rw [HSL.out]; congr 1; omega, by rw [HSM.out]; congr 1; omega, ?_, by rw [HSL.out]; omega, HBr.out.trans ⟨rfl, rfl, rfl, Nat.le_refl _, fun _ _ => rfl⟩⟩, by simp [intOf]⟩
        rw [List.drop_eq_getElem_cons (show k < L.length by omega), List.drop_eq_getElem_cons (show l < M.length by omega), HIJ.out]
        have e1 := HX.out
        have e2 := HY.out
        rw [List.getElem?_eq_getElem (by omega)] at e1 e2
        rw [Option.some.inj e1, Option.some.inj e2]
      · have HNM := hide (HNM0.out (fun k' l' e1 e2 => by
          rintro ⟨z, h1, h2, h3⟩
          obtain rfl : k' = k := by omega
          rw [HX.out] at h1
          have := Option.some.inj h1
          omega))
        clear HNM0
        go_wp2
        go_quiet (fail)
        clear HIJ
        go_wp2
        go_loopw [13, 15] (fun iv pv wr => ∃ kk : Nat, iv = .int .i64 kk ∧ kk ≤ (k + 1) ∧ pv = .int .i64 (suf L kk) ∧ Below w.heap.size w wr) (fun iv _ _ => (intOf iv).toNat)
        case atStart => exact ⟨(k + 1), rfl, Nat.le_refl _, by rw [HPe.out], HBr.out.trans ⟨rfl, rfl, rfl, Nat.le_refl _, fun _ _ => rfl⟩⟩
        case round =>
          clear HBr
          obtain ⟨k2, rfl, hk2, rfl, hB2⟩ := hrel
          have HB2 := hide hB2
          clear hB2
          rcases Nat.eq_zero_or_pos k2 with hz | hz
          · subst hz
            go_wp2
            go_ret
            exact ⟨rfl, HB2.out⟩
          · obtain ⟨k3, rfl⟩ : ∃ k3, k2 = k3 + 1 := ⟨k2 - 1, by omega⟩
            obtain ⟨lg, hlg, hlc⟩ := (HLw.out.below HB2.out).cell k3 (by omega)
            cases hlg
            have hst := suf_step L k3 (by omega)
            have hp3 := suf_le L HL.out 0 k3 (by omega) (by omega)
            have hp2 := suf_nonneg L HL.out (k3 + 1) (by omega)
            have hlt3 := suf_lt L HL.out k3 (k + 1) (by omega) (by omega)
            rw [HPe.out] at hlt3
            obtain ⟨x, hx⟩ : ∃ x, x = L[k3]'(by omega) := ⟨_, rfl⟩
            have hx1 : 1 ≤ x := by rw [hx]; exact HL.out _ (List.getElem_mem _)
            rw [← hx] at hlc hst
            clear hx
            have HNk := hide (fun j' (h : j' < (l + 1)) (h2 : suf L k3 ≤ n) => HNM.out k3 j' (by omega) h h2)
            obtain ⟨p2, hp2e⟩ : ∃ p2, p2 = suf L (k3 + 1) := ⟨_, rfl⟩
            obtain ⟨p3, hp3e⟩ : ∃ p3, p3 = suf L k3 := ⟨_, rfl⟩
            rw [← hp2e] at hst hp2 ⊢
            rw [← hp3e] at hst hp3 hlt3 HNk
            have hadd : p2 + x = p3 := by omega
            have hwr : IntKind.i64.wrap p3 = p3 := by simp [IntKind.wrap, IntKind.bits, IntKind.signed]; omega
            have HP3 := hide hp3e
            clear hp2e hp3e hst
            have hk3i : ((k3 + 1 : Nat) : Int) = (k3 : Int) + 1 := rfl
            rw [hk3i]
            clear hk3i
            by_cases hgt : n < p3
            · go_wp2
              go_ret
              exact ⟨rfl, HB2.out⟩
            · go_wp2
              go_loopw [17, 18] (fun rv kv wr => ∃ kk : Nat, kv = .int .i64 kk ∧ kk ≤ (l + 1) ∧ rv = .int .i64 (suf M kk) ∧ Below w.heap.size w wr) (fun _ kv _ => (intOf kv).toNat)
              case atStart => exact ⟨(l + 1), rfl, Nat.le_refl _, by rw [HQe.out], HB2.out⟩
              case round =>
                clear HB2
                obtain ⟨k4, rfl, hk4, rfl, hB4⟩ := hrel
                have HB4 := hide hB4
                clear hB4
                have hr0 := suf_nonneg M HM.out k4 (by omega)
                have hr1 := suf_le M HM.out 0 k4 (by omega) (by omega)
                have HNe : Hid (suf M k4 ≠ p3) := hide (by
                  by_cases hkj : k4 < (l + 1)
                  · exact fun e => HNk.out k4 hkj (by omega) e.symm
                  · have : k4 = (l + 1) := by omega
                    rw [this, HQe.out]
                    have := HPQ.out
                    omega)
                by_cases hgo : 0 < k4 ∧ suf M k4 < p3
                · obtain ⟨hk0, hrp⟩ := hgo
                  obtain ⟨k5, rfl⟩ : ∃ k5, k4 = k5 + 1 := ⟨k4 - 1, by omega⟩
                  obtain ⟨mg, hmg, hmc⟩ := (HMw.out.below HB4.out).cell k5 (by omega)
                  cases hmg
                  have hst := suf_step M k5 (by omega)
                  have hr5 := suf_le M HM.out 0 k5 (by omega) (by omega)
                  have hr6 := suf_nonneg M HM.out k5 (by omega)
                  obtain ⟨y, hy⟩ : ∃ y, y = M[k5]'(by omega) := ⟨_, rfl⟩
                  rw [← hy] at hmc hst
                  obtain ⟨r5, hr5e⟩ : ∃ r5, r5 = suf M k5 := ⟨_, rfl⟩
                  obtain ⟨r4, hr4e⟩ : ∃ r4, r4 = suf M (k5 + 1) := ⟨_, rfl⟩
                  rw [← hr4e] at hst hr0 hr1 hrp ⊢
                  rw [← hr5e] at hst hr5 hr6
                  have hadd2 : r4 + y = r5 := by omega
                  have hwr2 : IntKind.i64.wrap r5 = r5 := by simp [IntKind.wrap, IntKind.bits, IntKind.signed]; omega
                  have HR5 := hide hr5e
                  clear hy hr4e hr5e hst HNe
                  have hk5i : ((k5 + 1 : Nat) : Int) = (k5 : Int) + 1 := rfl
                  rw [hk5i]
                  clear hk5i
                  go_wp2
                  exact ⟨⟨k5, by go_num, by omega, by rw [HR5.out], HB4.out⟩, by simp [intOf] <;> omega⟩
                · obtain ⟨r4, hr4e⟩ : ∃ r4, r4 = suf M k4 := ⟨_, rfl⟩
                  rw [← hr4e] at hr0 hr1 hgo HNe ⊢
                  clear hr4e
                  have hnb : (r4 == p3) = false := by simpa using HNe.out
                  have hcb : (decide ((0 : Int) < (k4 : Int)) && decide (r4 < p3)) = false := by
                    by_cases h0 : 0 < k4
                    · have : ¬ r4 < p3 := fun h => hgo ⟨h0, h⟩
                      simp [this]
                    · simp; omega
                  by_cases h0 : 0 < k4
                  · have hn2 : ¬ r4 < p3 := fun h => hgo ⟨h0, h⟩
                    have h0i : (0 : Int) < (k4 : Int) := by omega
                    clear hgo
                    go_wp2
                    go_roundw
                    case rel => exact ⟨k3, by go_num, by omega, by rw [HP3.out], HB4.out⟩
                    case measure => simp [intOf] <;> omega
                  · obtain rfl : k4 = 0 := by omega
                    clear hgo
                    go_wp2
                    go_roundw
                    case rel => exact ⟨k3, by go_num, by omega, by rw [HP3.out], HB4.out⟩
                    case measure => simp [intOf] <;> omega
    · have hxb : (x == y) = false := by simpa using hxy
      have HNM := hide (HNM0.out (fun k' l' e1 e2 => by
        rintro ⟨z, h1, h2, h3⟩
        obtain rfl : k' = k := by omega
        obtain rfl : l' = l := by omega
        rw [HX.out] at h1
        rw [HY.out] at h2
        exact hxy ((Option.some.inj h1).trans (Option.some.inj h2).symm)))
      clear HNM0
      go_wp2
      go_quiet (fail)
      clear HIJ
      go_wp2
      go_loopw [13, 15] (fun iv pv wr => ∃ kk : Nat, iv = .int .i64 kk ∧ kk ≤ (k + 1) ∧ pv = .int .i64 (suf L kk) ∧ Below w.heap.size w wr) (fun iv _ _ => (intOf iv).toNat)
      case atStart => exact ⟨(k + 1), rfl, Nat.le_refl _, by rw [HPe.out], HBr.out.trans ⟨rfl, rfl, rfl, Nat.le_refl _, fun _ _ => rfl⟩⟩
      case round =>
        clear HBr
        obtain ⟨k2, rfl, hk2, rfl, hB2⟩ := hrel
        have HB2 := hide hB2
        clear hB2
        rcases Nat.eq_zero_or_pos k2 with hz | hz
        · subst hz
          go_wp2
          go_ret
          exact ⟨rfl, HB2.out⟩
        · obtain ⟨k3, rfl⟩ : ∃ k3, k2 = k3 + 1 := ⟨k2 - 1, by omega⟩
          obtain ⟨lg, hlg, hlc⟩ := (HLw.out.below HB2.out).cell k3 (by omega)
          cases hlg
          have hst := suf_step L k3 (by omega)
          have hp3 := suf_le L HL.out 0 k3 (by omega) (by omega)
          have hp2 := suf_nonneg L HL.out (k3 + 1) (by omega)
          have hlt3 := suf_lt L HL.out k3 (k + 1) (by omega) (by omega)
          rw [HPe.out] at hlt3
          obtain ⟨x, hx⟩ : ∃ x, x = L[k3]'(by omega) := ⟨_, rfl⟩
          have hx1 : 1 ≤ x := by rw [hx]; exact HL.out _ (List.getElem_mem _)
          rw [← hx] at hlc hst
          clear hx
          have HNk := hide (fun j' (h : j' < (l + 1)) (h2 : suf L k3 ≤ n) => HNM.out k3 j' (by omega) h h2)
          obtain ⟨p2, hp2e⟩ : ∃ p2, p2 = suf L (k3 + 1) := ⟨_, rfl⟩
          obtain ⟨p3, hp3e⟩ : ∃ p3, p3 = suf L k3 := ⟨_, rfl⟩
          rw [← hp2e] at hst hp2 ⊢
          rw [← hp3e] at hst hp3 hlt3 HNk
          have hadd : p2 + x = p3 := by omega
          have hwr : IntKind.i64.wrap p3 = p3 := by simp [IntKind.wrap, IntKind.bits, IntKind.signed]; omega
          have HP3 := hide hp3e
          clear hp2e hp3e hst
          have hk3i : ((k3 + 1 : Nat) : Int) = (k3 : Int) + 1 := rfl
          rw [hk3i]
          clear hk3i
          by_cases hgt : n < p3
          · go_wp2
            go_ret
            exact ⟨rfl, HB2.out⟩
          · go_wp2
            go_loopw [17, 18] (fun rv kv wr => ∃ kk : Nat, kv = .int .i64 kk ∧ kk ≤ (l + 1) ∧ rv = .int .i64 (suf M kk) ∧ Below w.heap.size w wr) (fun _ kv _ => (intOf kv).toNat)
            case atStart => exact ⟨(l + 1), rfl, Nat.le_refl _, by rw [HQe.out], HB2.out⟩
            case round =>
              clear HB2
              obtain ⟨k4, rfl, hk4, rfl, hB4⟩ := hrel
              have HB4 := hide hB4
              clear hB4
              have hr0 := suf_nonneg M HM.out k4 (by omega)
              have hr1 := suf_le M HM.out 0 k4 (by omega) (by omega)
              have HNe : Hid (suf M k4 ≠ p3) := hide (by
                by_cases hkj : k4 < (l + 1)
                · exact fun e => HNk.out k4 hkj (by omega) e.symm
                · have : k4 = (l + 1) := by omega
                  rw [this, HQe.out]
                  have := HPQ.out
                  omega)
              by_cases hgo : 0 < k4 ∧ suf M k4 < p3
              · obtain ⟨hk0, hrp⟩ := hgo
                obtain ⟨k5, rfl⟩ : ∃ k5, k4 = k5 + 1 := ⟨k4 - 1, by omega⟩
                obtain ⟨mg, hmg, hmc⟩ := (HMw.out.below HB4.out).cell k5 (by omega)
                cases hmg
                have hst := suf_step M k5 (by omega)
                have hr5 := suf_le M HM.out 0 k5 (by omega) (by omega)
                have hr6 := suf_nonneg M HM.out k5 (by omega)
                obtain ⟨y, hy⟩ : ∃ y, y = M[k5]'(by omega) := ⟨_, rfl⟩
                rw [← hy] at hmc hst
                obtain ⟨r5, hr5e⟩ : ∃ r5, r5 = suf M k5 := ⟨_, rfl⟩
                obtain ⟨r4, hr4e⟩ : ∃ r4, r4 = suf M (k5 + 1) := ⟨_, rfl⟩
                rw [← hr4e] at hst hr0 hr1 hrp ⊢
                rw [← hr5e] at hst hr5 hr6
                have hadd2 : r4 + y = r5 := by omega
                have hwr2 : IntKind.i64.wrap r5 = r5 := by simp [IntKind.wrap, IntKind.bits, IntKind.signed]; omega
                have HR5 := hide hr5e
                clear hy hr4e hr5e hst HNe
                have hk5i : ((k5 + 1 : Nat) : Int) = (k5 : Int) + 1 := rfl
                rw [hk5i]
                clear hk5i
                go_wp2
                exact ⟨⟨k5, by go_num, by omega, by rw [HR5.out], HB4.out⟩, by simp [intOf] <;> omega⟩
              · obtain ⟨r4, hr4e⟩ : ∃ r4, r4 = suf M k4 := ⟨_, rfl⟩
                rw [← hr4e] at hr0 hr1 hgo HNe ⊢
                clear hr4e
                have hnb : (r4 == p3) = false := by simpa using HNe.out
                have hcb : (decide ((0 : Int) < (k4 : Int)) && decide (r4 < p3)) = false := by
                  by_cases h0 : 0 < k4
                  · have : ¬ r4 < p3 := fun h => hgo ⟨h0, h⟩
                    simp [this]
                  · simp; omega
                by_cases h0 : 0 < k4
                · have hn2 : ¬ r4 < p3 := fun h => hgo ⟨h0, h⟩
                  have h0i : (0 : Int) < (k4 : Int) := by omega
                  clear hgo
                  go_wp2
                  go_roundw
                  case rel => exact ⟨k3, by go_num, by omega, by rw [HP3.out], HB4.out⟩
                  case measure => simp [intOf] <;> omega
                · obtain rfl : k4 = 0 := by omega
                  clear hgo
                  go_wp2
                  go_roundw
                  case rel => exact ⟨k3, by go_num, by omega, by rw [HP3.out], HB4.out⟩
                  case measure => simp [intOf] <;> omega
end Go.Proofs.YtamajnaeladehaaDoor
