/- KeyAlgebra, the law. -/
import Derived.Test.YtjmjnecobaoofaaKN20
namespace Go.Proofs.Ytjmjnecobaoofaa
set_option linter.unusedVariables false
set_option linter.unusedSimpArgs false
open Go.RowKit Go.Shelf
set_option maxRecDepth 100000

theorem hasA {wr : World} {z : Nat} {S : List (List UInt8)} (h : StA wr z S) (k : List UInt8) (hk : k.length = 32) {b : Bool} (hb : decide (k ∈ S) = b) : ∀ w1, Below wr.heap.size wr w1 → Calls Try.prog 22 #[.pointer (some ⟨z, 0, none⟩), keyV k] w1 fun e w' => e = .returned (.bool b) ∧ Below w1.heap.size w1 w' := fun w1 hB => by
  obtain ⟨q, hq⟩ := (h.below hB).at'
  have := has_any w1 z q S k hk hq
  rw [hb] at this
  exact this
theorem nextA {wr : World} {z : Nat} {S : List (List UInt8)} (h : StA wr z S) (k : List UInt8) (any : Bool) (hk : k.length = 32) : Calls Try.prog 23 #[.pointer (some ⟨z, 0, none⟩), keyV k, .bool any] wr (NextC wr S k any) := by
  obtain ⟨q, hq⟩ := h.at'
  exact next_any wr z q S k any hk hq
theorem shortA {wr : World} {z : Nat} {S : List (List UInt8)} (h : StA wr z S) (k : List UInt8) (hk : k.length = 32) (hin : k ∈ S) (hn : S.length ≤ 4398046510976) : Calls Try.prog 24 #[.pointer (some ⟨z, 0, none⟩), keyV k] wr (ShortC wr S k) := by
  obtain ⟨q, hq⟩ := h.at'
  exact short_any wr z q S k hk hin hq hn
theorem findA {wr : World} {z : Nat} {S : List (List UInt8)} (h : StA wr z S) (k : List UInt8) (m : Nat) (hk : k.length = 32) (hm : m ≤ 64) (hin : k ∈ S) (hn : S.length ≤ 4398046510976) : Calls Try.prog 25 #[.pointer (some ⟨z, 0, none⟩), .string ⟨((hexOf k).take m).toArray⟩] wr (FindC wr S ((hexOf k).take m)) := by
  obtain ⟨q, hq⟩ := h.at'
  exact find_any wr z q S _ (by rw [List.length_take]; omega) (allDig_take m (allDig_hexOf k)) ⟨k, hin, hk, (begK_take hk hm k).2 rfl⟩ hq hn
theorem findS {wr : World} {z : Nat} {S : List (List UInt8)} (h : StA wr z S) (k : List UInt8) (m : Nat) (hk : k.length = 32) (hm : m ≤ 64) (hin : k ∈ S) (hn : S.length ≤ 4398046510976) (hd : ∀ x ∈ S, x.length = 32 → x ≠ k → (hexOf x).take m ≠ (hexOf k).take m) : Calls Try.prog 25 #[.pointer (some ⟨z, 0, none⟩), .string ⟨((hexOf k).take m).toArray⟩] wr fun e w' => e = .returned (.tuple #[keyV k, .int .i64 0]) ∧ Below wr.heap.size wr w' := by
  refine (findA h k m hk hm hin hn).mono ?_
  rintro e w' ⟨k', n, rfl, h1, h2, h3⟩
  obtain ⟨rfl, rfl⟩ := find_short hk hin hm hd h3
  exact ⟨rfl, h2⟩
def FindTC (wr : World) (e : Ending) (w' : World) : Prop := ∃ k' : List UInt8, e = .returned (.tuple #[keyV k', .int .i64 32]) ∧ k'.length = 32 ∧ Below wr.heap.size wr w'
theorem findT {wr : World} {z : Nat} {S : List (List UInt8)} (h : StA wr z S) (k : List UInt8) (m : Nat) (hk : k.length = 32) (hm : m ≤ 64) (hin : k ∈ S) (hn : S.length ≤ 4398046510976) (ho : ∃ x ∈ S, x.length = 32 ∧ x ≠ k ∧ (hexOf x).take m = (hexOf k).take m) : Calls Try.prog 25 #[.pointer (some ⟨z, 0, none⟩), .string ⟨((hexOf k).take m).toArray⟩] wr (FindTC wr) := by
  refine (findA h k m hk hm hin hn).mono ?_
  rintro e w' ⟨k', n, rfl, h1, h2, h3⟩
  obtain rfl := find_less hk hin hm ho h3
  exact ⟨k', rfl, h1, h2⟩
theorem wpList_cutA {ops : Array Oper} {rest : List Oper} {op : Oper} {a : Act} {w : World} {Q : Exit → Act → World → Prop} (x y : Operand) (s : List UInt8) (m : Nat) (hm : m ≤ s.length) (ho : op.op = .slice 9 x none (some y) none) (hx : a.eval x = .string ⟨s.toArray⟩) (hy : a.eval y = .int .i64 m) (hg : Region.wanted op (yielded ops a.tmps) = true) (r : List UInt8) (hr : s.take m = r)
    (h : wpList Try.prog ops Q rest (a.put op.dst (.string ⟨r.toArray⟩)) w) : wpList Try.prog ops Q (op :: rest) a w :=
  wpList_val _ hg (by rw [← hr]; exact run_cut s m hm ho hx hy) h
def k255 : List UInt8 := 255 :: List.replicate 31 0
theorem k255_len : k255.length = 32 := rfl
theorem wpList_K255 {ops : Array Oper} {rest : List Oper} {op : Oper} {a : Act} {w : World} {Q : Exit → Act → World → Prop} (ho : op.op = .build 24 #[(0, .const (.int .u8 255))]) (hg : Region.wanted op (yielded ops a.tmps) = true)
    (h : wpList Try.prog ops Q rest (a.put op.dst (keyV k255)) w) : wpList Try.prog ops Q (op :: rest) a w :=
  wpList_val _ hg (by simp only [execOp, ho]; kernel_rfl) h
/-- Where Next stands: at place i of the row, or behind its end. -/
def AtP (ks : List (List UInt8)) (i : Nat) (x : List UInt8) (ok : Bool) : Prop := (∀ h : i < ks.length, ok = true ∧ x = ks[i]) ∧ (ks.length ≤ i → ok = false)
theorem atP_begin {ks S : List (List UInt8)} {after x : List UInt8} {ok : Bool} (hr : Rising ks) (hm : ∀ x : List UInt8, x ∈ ks ↔ (x.length = 32 ∧ x ∈ S)) (h : LeastN (fun x => x.length = 32 ∧ x ∈ S) after true x ok) : AtP ks 0 x ok := least_at hr (fun y => (hm y).symm) (fits_first after) h
def FitsAll (ks : List (List UInt8)) (x : List UInt8) (i : Nat) : Prop := ∀ j (h : j < ks.length), FitsN x false ks[j] ↔ i + 1 ≤ j
theorem atP_next {ks S : List (List UInt8)} {k x : List UInt8} {ok : Bool} {i : Nat} (hr : Rising ks) (hm : ∀ x : List UInt8, x ∈ ks ↔ (x.length = 32 ∧ x ∈ S)) (hf : FitsAll ks k i) (h : LeastN (fun x => x.length = 32 ∧ x ∈ S) k false x ok) : AtP ks (i + 1) x ok := least_at hr (fun y => (hm y).symm) hf h
set_option maxHeartbeats 8000000 in
theorem algebra_any (w : World) (aa ab : Option Addr) (ca cb na0 nb0 : Nat) (ka kb : List (List UInt8)) (hna0 : na0 = ka.length) (hnb0 : nb0 = kb.length) (hA : KRow w aa ka) (hB : KRow w ab kb) (hn : ka.length + kb.length ≤ 4398046510976) : Calls Try.prog 5 #[.slice aa na0 ca, .slice ab nb0 cb] w fun e w' => e = .returned (.bool true) ∧ Below w.heap.size w w' := by
  have HN1 : Hid (Calls Try.prog 11 #[.slice aa na0 ca] w fun e W => ∃ z, e = .returned (.pointer (some ⟨z, 0, none⟩)) ∧ StA W z (addAll ka) ∧ Below w.heap.size w W) := hide ((newSet_any w aa na0 ca ka hna0 hA (by omega)).mono (by
    rintro e w1 ⟨zu, bu, rfl, hz, hbu, hs, hb1⟩
    exact ⟨zu, rfl, ⟨⟨bu, hs⟩, addAll_nodup ka, fun x hx => hA.len x ((mem_addAll ka x).1 hx)⟩, hb1⟩))
  have HN2 : Hid (∀ w1, Below w.heap.size w w1 → Calls Try.prog 11 #[.slice ab nb0 cb] w1 fun e W => ∃ z, e = .returned (.pointer (some ⟨z, 0, none⟩)) ∧ StA W z (addAll kb) ∧ Below w1.heap.size w1 W) := hide (fun w1 hb => (newSet_any w1 ab nb0 cb kb hnb0 (hB.below hb) (by omega)).mono (by
    rintro e w2 ⟨zu, bu, rfl, hz, hbu, hs, hb1⟩
    exact ⟨zu, rfl, ⟨⟨bu, hs⟩, addAll_nodup kb, fun x hx => hB.len x ((mem_addAll kb x).1 hx)⟩, hb1⟩))
  have HNA0 := hide hna0
  have HNB0 := hide hnb0
  have hna1 : na0 ≤ 4398046510976 := by omega
  have hnb1 : nb0 ≤ 4398046510976 := by omega
  have hAl := addAll_le ka
  have hBl := addAll_le kb
  rw [← hna0] at hAl hn
  rw [← hnb0] at hBl hn
  clear hna0 hnb0
  go_enter Try.func5, Try.ntmps5
  go_upto_region 2 with (first | (go_at_call 11; (with_reducible refine HN1.out.mono ?_); rintro e w1 ⟨zs, rfl, hs1, hb1⟩; have HS1 := hide hs1; have HB1 := hide hb1; clear hs1 hb1) | (go_at_call 11; (with_reducible refine (HN2.out w1 HB1.out).mono ?_); rintro e w2 ⟨zt, rfl, ht2, hb2⟩; have HT2 := hide ht2; have HB2 := hide hb2; clear ht2 hb2))
  have HBl : Hid (Below w.heap.size w w2) := hide (HB1.out.trans (HB2.out.mono HB1.out.size))
  have HSs := hide (HS1.out.below HB2.out)
  have HCu : Hid (Calls Try.prog 18 #[.pointer (some ⟨zs, 0, none⟩), .pointer (some ⟨zt, 0, none⟩)] w2 fun e W => ∃ z U, e = .returned (.pointer (some ⟨z, 0, none⟩)) ∧ StA W z U ∧ (∀ x : List UInt8, x ∈ U ↔ (x.length = 32 ∧ (x ∈ addAll ka ∨ x ∈ addAll kb))) ∧ Below w2.heap.size w2 W) := hide (by
    obtain ⟨b1, h1⟩ := HSs.out.at'
    obtain ⟨b2, h2⟩ := HT2.out.at'
    refine (union_any w2 zs b1 zt b2 _ _ h1 h2 (by omega)).mono ?_
    rintro e W ⟨U, ⟨⟨z, b, rfl, _, _, h3, h4⟩, h5⟩, h6⟩
    exact ⟨z, U, rfl, ⟨⟨b, h3⟩, h5, fun x hx => ((h6 x).1 hx).1⟩, h6, h4⟩)
  have HCv : Hid (∀ W0, Below w2.heap.size w2 W0 → Calls Try.prog 19 #[.pointer (some ⟨zs, 0, none⟩), .pointer (some ⟨zt, 0, none⟩)] W0 fun e W => ∃ z U, e = .returned (.pointer (some ⟨z, 0, none⟩)) ∧ StA W z U ∧ (∀ x : List UInt8, x ∈ U ↔ (x.length = 32 ∧ x ∈ addAll ka ∧ x ∈ addAll kb)) ∧ Below W0.heap.size W0 W) := hide (fun W0 hb => by
    obtain ⟨b1, h1⟩ := (HSs.out.below hb).at'
    obtain ⟨b2, h2⟩ := (HT2.out.below hb).at'
    refine (both_any W0 zs b1 zt b2 _ _ h1 h2 (by omega)).mono ?_
    rintro e W ⟨U, ⟨⟨z, b, rfl, _, _, h3, h4⟩, h5⟩, h6⟩
    exact ⟨z, U, rfl, ⟨⟨b, h3⟩, h5, fun x hx => ((h6 x).1 hx).1⟩, h6, h4⟩)
  have HCm : Hid (∀ W0, Below w2.heap.size w2 W0 → Calls Try.prog 20 #[.pointer (some ⟨zs, 0, none⟩), .pointer (some ⟨zt, 0, none⟩)] W0 fun e W => ∃ z U, e = .returned (.pointer (some ⟨z, 0, none⟩)) ∧ StA W z U ∧ (∀ x : List UInt8, x ∈ U ↔ (x.length = 32 ∧ x ∈ addAll ka ∧ ¬ x ∈ addAll kb)) ∧ Below W0.heap.size W0 W) := hide (fun W0 hb => by
    obtain ⟨b1, h1⟩ := (HSs.out.below hb).at'
    obtain ⟨b2, h2⟩ := (HT2.out.below hb).at'
    refine (minus_any W0 zs b1 zt b2 _ _ h1 h2 (by omega)).mono ?_
    rintro e W ⟨U, ⟨⟨z, b, rfl, _, _, h3, h4⟩, h5⟩, h6⟩
    exact ⟨z, U, rfl, ⟨⟨b, h3⟩, h5, fun x hx => ((h6 x).1 hx).1⟩, h6, h4⟩)
  have HA := hide hA
  have HB := hide hB
  clear HN1 HN2 hA hB
  go_upto_region 3 with (first | (go_at_call 18; (with_reducible refine HCu.out.mono ?_); rintro e w3 ⟨zu, U, rfl, hu3, hu4, hb3⟩; have HU3 := hide hu3; have HUm := hide hu4; have HB3 := hide hb3; clear hu3 hu4 hb3) | (go_at_call 19; (with_reducible refine (HCv.out w3 HB3.out).mono ?_); rintro e w4 ⟨zv, V, rfl, hu3, hu4, hb3⟩; have HV4 := hide hu3; have HVm := hide hu4; have HB4 := hide hb3; clear hu3 hu4 hb3) | (go_at_call 20; (with_reducible refine (HCm.out w4 (HB3.out.trans (HB4.out.mono HB3.out.size))).mono ?_); rintro e w5 ⟨zm, M, rfl, hu3, hu4, hb3⟩; have HM5 := hide hu3; have HMm := hide hu4; have HB5 := hide hb3; clear hu3 hu4 hb3))
  refine name_worldK (fun W => AlS w aa ab ka kb zs zt zu zv zm U V M W) (by
    have b45 := HB4.out.trans (HB5.out.mono HB4.out.size)
    have b35 := HB3.out.trans (b45.mono HB3.out.size)
    have b05 := HBl.out.trans (b35.mono HBl.out.size)
    exact ⟨HA.out.below b05, HB.out.below b05, HSs.out.below b35, HT2.out.below b35, HU3.out.below b45, HV4.out.below HB5.out, HM5.out, b05⟩) ?_
  intro W6 hS6
  have HLe := hide (sets_len hS6.s.nd hS6.t.nd hS6.u.nd hS6.v.nd hS6.m.nd hS6.s.l32 hS6.t.l32 HUm.out HVm.out HMm.out)
  have HS6 := hide hS6
  have HLs := hide hS6.s.len
  have HLt := hide hS6.t.len
  have HLu := hide hS6.u.len
  have HLv := hide hS6.v.len
  have HLm := hide hS6.m.len
  clear hS6 HCu HCv HCm HA HB HB1 HB2 HB3 HB4 HB5 HBl HSs HT2 HU3 HV4 HM5 HS1
  obtain ⟨na, hna⟩ : ∃ na, na = (addAll ka).length := ⟨_, rfl⟩
  obtain ⟨nb, hnb⟩ : ∃ nb, nb = (addAll kb).length := ⟨_, rfl⟩
  obtain ⟨nu, hnu⟩ : ∃ nu, nu = U.length := ⟨_, rfl⟩
  obtain ⟨nv, hnv⟩ : ∃ nv, nv = V.length := ⟨_, rfl⟩
  obtain ⟨nm, hnm⟩ : ∃ nm, nm = M.length := ⟨_, rfl⟩
  have HNU := hide hnu
  have hpos : 0 < na0 → 0 < na := fun h => by
    rw [hna]
    rw [HNA0.out] at h
    obtain ⟨x, hx⟩ := List.exists_mem_of_length_pos h
    exact List.length_pos_of_mem ((mem_addAll ka x).2 hx)
  have hle := HLe.out
  rw [← hna, ← hnb, ← hnu, ← hnv, ← hnm] at hle
  rw [← hna] at HLs hAl
  rw [← hnb] at HLt hBl
  rw [← hnu] at HLu
  rw [← hnv] at HLv
  rw [← hnm] at HLm
  have q1 : IntKind.i64.wrap ((nu : Int) + (nv : Int)) = IntKind.i64.wrap ((na : Int) + (nb : Int)) := by rw [show (nu : Int) + nv = na + nb by omega]
  have q2 : IntKind.i64.wrap ((nm : Int) + (nv : Int)) = (na : Int) := by rw [show (nm : Int) + nv = na by omega]; exact wrapi64_nat na (by omega)
  have HNul : Hid (nu ≤ 4398046510976) := hide (by omega)
  have HTo : Hid (Calls Try.prog 21 #[.pointer (some ⟨zu, 0, none⟩)] W6 (ToldC W6 U)) := hide (by
    obtain ⟨b1, h1⟩ := HS6.out.u.at'
    exact told_any W6 zu b1 U h1 (by rw [← HNU.out]; exact HNul.out))
  have HU6 := hide HS6.out.u
  have hnu1 : nu ≤ 4398046510976 := HNul.out
  clear hle HLe hna hnb hnu hnv hnm hAl hBl hn
  rcases Nat.eq_zero_or_pos na0 with h0 | h0
  · have hp1 : ¬ (0 : Int) < (na0 : Int) := by omega
    clear hpos h0
    go_upto_region 5 with (first | (go_at_call 17; (with_reducible refine HLu.out.mono ?_); rintro e w' ⟨rfl, hw⟩; rw [hw]; clear hw) | (go_at_call 17; (with_reducible refine HLv.out.mono ?_); rintro e w' ⟨rfl, hw⟩; rw [hw]; clear hw) | (go_at_call 17; (with_reducible refine HLs.out.mono ?_); rintro e w' ⟨rfl, hw⟩; rw [hw]; clear hw) | (go_at_call 17; (with_reducible refine HLt.out.mono ?_); rintro e w' ⟨rfl, hw⟩; rw [hw]; clear hw) | (go_at_call 17; (with_reducible refine HLm.out.mono ?_); rintro e w' ⟨rfl, hw⟩; rw [hw]; clear hw))
    clear hp1 q1 q2 HLs HLt HLv HLm HLu
    go_upto_region 6 with (go_at_call 21; (with_reducible refine HTo.out.mono ?_); rintro e w7 ⟨vl, xs, rfl, hx1, hx2, hx3, hx4⟩; have HX1 := hide hx1; have HX2 := hide hx2; have HX3 := hide hx3; have HX4 := hide hx4; obtain ⟨al, cl, hf⟩ := own_formK hx3; subst hf; clear hx1 hx2 hx3 hx4)
    have hxl : xs.length = nu := by rw [HNU.out]; exact told_len HU6.out.nd HU6.out.l32 HX1.out HX2.out
    have HLu7 := hide (HU6.out.below HX4.out).len
    rw [← HNU.out] at HLu7
    have HR7 := hide (own_krow HX3.out)
    have HS7 := hide (HS6.out.below HX4.out)
    have HXL := hide hxl
    rw [hxl]
    clear HX3 HX4 HS6 HTo hxl HU6
    go_upto_region 9 with (go_at_call 17; (with_reducible refine HLu7.out.mono ?_); rintro e w' ⟨rfl, hw⟩; rw [hw]; clear hw)
    go_loopw [11] (fun t wr => ∃ i : Nat, t = .int .i64 i ∧ i ≤ na0 ∧ AlS w aa ab ka kb zs zt zu zv zm U V M wr ∧ KRow wr al (xs.map Subtype.val)) (fun t _ => na0 - (intOf t).toNat)
    case atStart => exact ⟨0, rfl, by omega, HS7.out, HR7.out⟩
    case round =>
      clear HS7 HR7 HLu7
      obtain ⟨i, rfl, hi, hS, hR⟩ := hrel
      by_cases hlt : i < na0
      · have hik : i < ka.length := by rw [← HNA0.out]; exact hlt
        obtain ⟨g, o, hao, hra⟩ := hS.ra.at' i hik
        obtain ⟨k, hk⟩ : ∃ k, k = ka[i] := ⟨_, rfl⟩
        have hkl : k.length = 32 := by rw [hk]; exact hS.ra.len _ (List.getElem_mem _)
        have hkA : k ∈ addAll ka := (mem_addAll ka k).2 (by rw [hk]; exact List.getElem_mem _)
        rw [← hk] at hra
        have HRA : Hid (∀ w', Below wr.heap.size wr w' → w'.rangeAt g (o + i * 32) (k.map u8c)) := hide (fun w' hb => rangeAt_belowK hra hb)
        have hv : decide (k ∈ V) = decide (k ∈ addAll kb) := by
          rw [decide_eq_decide, HVm.out k]
          exact ⟨fun h => h.2.2, fun h => ⟨hkl, hkA, h⟩⟩
        have hm : decide (k ∈ M) = !decide (k ∈ addAll kb) := by
          rw [← decide_not, decide_eq_decide, HMm.out k]
          exact ⟨fun h => h.2.2, fun h => ⟨hkl, hkA, h⟩⟩
        have HHs := hide (hasA hS.s k hkl (decide_eq_true hkA))
        have HHt := hide (hasA hS.t k hkl rfl)
        have HHu := hide (hasA hS.u k hkl (decide_eq_true ((HUm.out k).2 ⟨hkl, .inl hkA⟩)))
        have HHv := hide (hasA hS.v k hkl hv)
        have HHm := hide (hasA hS.m k hkl hm)
        have hji : (i : Int) < (na0 : Int) := by omega
        have HS := hide hS
        have HR := hide hR
        have HKL := hide hkl
        generalize decide (k ∈ addAll kb) = bk at *
        subst hao
        clear hkA hv hm hk hra hS hR hkl hik
        go_upto_region 11 with fail
        refine al_walk _ (fun _ _ _ _ _ h => h) wr zs zt zu zv zm g o na0 ca i k bk HKL.out hlt HRA.out HHs.out HHu.out HHv.out HHt.out HHm.out _ (Nat.lt_of_sub_pos (by exact Nat.succ_pos _)) rfl rfl rfl rfl rfl rfl rfl ?_
        intro w8 hb8
        have HS8 := hide (HS.out.below hb8)
        have HR8 := hide (HR.out.below hb8)
        simp only [Act.put, List.setIfInBounds_toArray, List.set_cons_zero, List.set_cons_succ]
        clear hb8 HS HR HHs HHt HHu HHv HHm HRA
        go_wp2
        exact ⟨⟨i + 1, by go_num, by omega, HS8.out, HR8.out⟩, by simp [intOf]; omega⟩
      · have hji : ¬ (i : Int) < (na0 : Int) := by omega
        have HS7 := hide hS
        have HR7 := hide hR
        clear hS hR
        obtain ⟨wa, hwa⟩ : ∃ wa, wa = wr := ⟨_, rfl⟩
        rw [← hwa] at HS7 HR7 ⊢
        clear hwa
        go_wp2
        go_loopw [12] (fun t wr => ∃ i : Nat, t = .int .i64 i ∧ i ≤ nb0 ∧ AlS w aa ab ka kb zs zt zu zv zm U V M wr ∧ KRow wr al (xs.map Subtype.val)) (fun t _ => nb0 - (intOf t).toNat)
        case atStart => exact ⟨0, rfl, by omega, HS7.out, HR7.out⟩
        case round =>
          clear HS7 HR7
          obtain ⟨i, rfl, hi, hS, hR⟩ := hrel
          by_cases hlt : i < nb0
          · have hik : i < kb.length := by rw [← HNB0.out]; exact hlt
            obtain ⟨g, o, hao, hra⟩ := hS.rb.at' i hik
            obtain ⟨k, hk⟩ : ∃ k, k = kb[i] := ⟨_, rfl⟩
            have hkl : k.length = 32 := by rw [hk]; exact hS.rb.len _ (List.getElem_mem _)
            have hkB : k ∈ addAll kb := (mem_addAll kb k).2 (by rw [hk]; exact List.getElem_mem _)
            rw [← hk] at hra
            have HRA : Hid (∀ w', Below wr.heap.size wr w' → w'.rangeAt g (o + i * 32) (k.map u8c)) := hide (fun w' hb => rangeAt_belowK hra hb)
            have hv : decide (k ∈ V) = decide (k ∈ addAll ka) := by
              rw [decide_eq_decide, HVm.out k]
              exact ⟨fun h => h.2.1, fun h => ⟨hkl, h, hkB⟩⟩
            have HHs := hide (hasA hS.s k hkl rfl)
            have HHt := hide (hasA hS.t k hkl (decide_eq_true hkB))
            have HHu := hide (hasA hS.u k hkl (decide_eq_true ((HUm.out k).2 ⟨hkl, .inr hkB⟩)))
            have HHv := hide (hasA hS.v k hkl hv)
            have HHm := hide (hasA hS.m k hkl (decide_eq_false (fun h => ((HMm.out k).1 h).2.2 hkB)))
            have hji2 : (i : Int) < (nb0 : Int) := by omega
            have HS := hide hS
            have HR := hide hR
            have HKL := hide hkl
            generalize decide (k ∈ addAll ka) = bk at *
            subst hao
            clear hkB hv hk hra hS hR hkl hik
            go_upto_region 16 with fail
            refine am_walk _ (fun _ _ _ _ _ h => h) wr zs zt zu zv zm g o nb0 cb i k bk HKL.out hlt HRA.out HHs.out HHu.out HHv.out HHt.out HHm.out _ (Nat.lt_of_sub_pos (by exact Nat.succ_pos _)) rfl rfl rfl rfl rfl rfl rfl ?_
            intro w8 hb8
            have HS8 := hide (HS.out.below hb8)
            have HR8 := hide (HR.out.below hb8)
            simp only [Act.put, List.setIfInBounds_toArray, List.set_cons_zero, List.set_cons_succ]
            clear hb8 HS HR HHs HHt HHu HHv HHm HRA
            go_wp2
            exact ⟨⟨i + 1, by go_num, by omega, HS8.out, HR8.out⟩, by simp [intOf]; omega⟩
          · have hji2 : ¬ (i : Int) < (nb0 : Int) := by omega
            have HS7 := hide hS
            have HR7 := hide hR
            have HXU := hide (nextA hS.u k255 true k255_len)
            clear hS hR
            obtain ⟨wb, hwb⟩ : ∃ wb, wb = wr := ⟨_, rfl⟩
            rw [← hwb] at HS7 HR7 HXU ⊢
            clear hwb
            have hz := zero_key
            go_upto_region 19 with (first | ((with_reducible refine wpList_K255 ?_ ?_ ?_); rfl; rfl) | (go_at_call 23; (with_reducible refine HXU.out.mono ?_); rintro e w9 ⟨k9, ok9, rfl, hk9, hL9, hb9⟩; have HK9 := hide hk9; have HL9 := hide hL9; have HB9 := hide hb9; clear hk9 hL9 hb9) | ((with_reducible refine wpList_put_key ?_ (.tmp 13) (.tmp 184) ?_ w9.heap.size ?_ w9 ?_ ?_ k9 HK9.out ?_ ?_); rfl; rfl; rfl; rfl; rfl; rfl; intro wc HKc hbc))
            have HS9 := hide (HS7.out.below HB9.out)
            have HR9 := hide (HR7.out.below HB9.out)
            obtain ⟨za, hza⟩ : ∃ za, za = w9.heap.size := ⟨_, rfl⟩
            have HZA := hide hza
            have HAt : Hid (∃ x, KeyAt wc za x ∧ AtP (xs.map Subtype.val) 0 x ok9) := hide ⟨k9, by rw [hza]; exact HKc.out, atP_begin HX1.out HX2.out HL9.out⟩
            have HBc : Hid (Below za w9 wc) := hide (by rw [hza]; exact hbc)
            rw [← hza]
            clear hza HXU HK9 HL9 HKc hbc hz HS7 HR7 HB9
            go_wp2
            go_loopw [14, 15] (fun t u wr => ∃ (i : Nat) (ok : Bool) (x : List UInt8), u = .int .i64 i ∧ i ≤ nu ∧ t = .bool ok ∧ KeyAt wr za x ∧ AtP (xs.map Subtype.val) i x ok ∧ Below za w9 wr) (fun _ u _ => nu - (intOf u).toNat)
            case atStart => obtain ⟨x, h1, h2⟩ := HAt.out; exact ⟨0, _, x, rfl, by omega, rfl, h1, h2, HBc.out⟩
            case round =>
              clear HAt HBc
              obtain ⟨i, ok, x, rfl, hi, rfl, hKA, hAP, hBl⟩ := hrel
              have hbw : Below w9.heap.size w9 wr := by rw [← HZA.out]; exact hBl
              by_cases hlt : i < nu
              · have hix : i < (xs.map Subtype.val).length := by rw [List.length_map, HXL.out]; exact hlt
                obtain ⟨rfl, hxk⟩ := hAP.1 hix
                obtain ⟨k, hk⟩ : ∃ k, k = (xs.map Subtype.val)[i] := ⟨_, rfl⟩
                rw [← hk] at hxk
                subst hxk
                have hkU0 := (HX2.out x).1 (by rw [hk]; exact List.getElem_mem _)
                have hkl := hkU0.1
                have HKL := hide hkl
                have HKU := hide hkU0.2
                obtain ⟨g, o, hal, hra0⟩ := (HR9.out.below hbw).at' i hix
                have HRX : Hid (∀ w', Below w9.heap.size w9 w' → w'.rangeAt g (o + i * 32) (x.map u8c)) := hide (fun w' hb => by
                  obtain ⟨g', o', e, h2⟩ := (HR9.out.below hb).at' i hix
                  rw [hal] at e
                  cases e
                  rw [hk]; exact h2)
                have HRI : Hid (∀ (w' : World) (hb : Below w9.heap.size w9 w') (j : Nat) (hj : j < (xs.map Subtype.val).length), w'.rangeAt g (o + j * 32) (((xs.map Subtype.val)[j]).map u8c)) := hide (fun w' hb j hj => by
                  obtain ⟨g', o', e, h2⟩ := (HR9.out.below hb).at' j hj
                  rw [hal] at e
                  cases e
                  exact h2)
                have hji3 : (i : Int) < (nu : Int) := by omega
                have HIX := hide hix
                have HKI : Hid (∀ h : i < (xs.map Subtype.val).length, x = (xs.map Subtype.val)[i]) := hide (fun _ => hk)
                have HBW := hide hbw
                have HKA := hide hKA
                have HSW : Hid (∀ w', Below w9.heap.size w9 w' → StA w' zu U) := hide (fun w' hb => (HS9.out.below hb).u)
                have HFT : Hid (FitsAll (xs.map Subtype.val) x i) := hide (by rw [hk]; exact fits_after HX1.out hix)
                have hal' := hal
                subst hal'
                clear hra0 hkU0 hkl hk hKA hAP hBl hbw hix hal
                go_upto_region 22 with fail
                rcases Nat.eq_zero_or_pos i with h0i | h0i
                · refine an_walk _ (fun _ _ _ _ _ h => h) wr za g o nu cl i x HKL.out hlt h0i ⟨HKA.out.below (below_d wr), HRX.out _ (HBW.out.trans ((below_d wr).mono HBW.out.size)), trivial⟩ _ (Nat.lt_of_sub_pos (by exact Nat.succ_pos _)) rfl rfl rfl rfl ?_
                  clear h0i
                  have HB1 := hide (below_d wr)
                  obtain ⟨w1x, hw1⟩ : ∃ w1x, w1x = wr.drew := ⟨_, rfl⟩
                  rw [← hw1] at HB1 ⊢
                  clear hw1
                  have HBx := hide (HBW.out.trans (HB1.out.mono HBW.out.size))
                  have HKx := hide (HKA.out.below HB1.out)
                  have HRx := hide (HRX.out _ HBx.out)
                  have HSh := hide (shortA (HSW.out _ HBx.out) x HKL.out HKU.out (by rw [← HNU.out]; exact HNul.out))
                  simp only [Act.put, List.setIfInBounds_toArray, List.set_cons_zero, List.set_cons_succ]
                  clear HB1
                  go_upto_region 25 with (first | ((with_reducible refine wpList_load_keyAt (.tmp 223) g (o + i * 32) x HKL.out HRx.out ?_ ?_ ?_ ?_); rfl; rfl; rfl) | (go_at_call 24; (with_reducible refine HSh.out.mono ?_); rintro e w2x ⟨m, rfl, hm4, hm64, hd1, hd2, hb2⟩; have HD1 := hide hd1; have HD2 := hide hd2; have HB2 := hide hb2; clear hd1 hd2 hb2))
                  have HBy := hide (HBx.out.trans (HB2.out.mono HBx.out.size))
                  have HKy := hide (HKx.out.below HB2.out)
                  have HRy := hide (HRX.out _ HBy.out)
                  obtain ⟨pp, hpp⟩ : ∃ pp, pp = (hexOf x).take m := ⟨_, rfl⟩
                  have hhl : (hexOf x).length = 64 := by rw [hexOf_len, HKL.out]
                  have hpl : pp.length = m := by rw [hpp, List.length_take, hhl]; omega
                  have HPP : Hid ((hexOf x).take m = pp) := hide hpp.symm
                  have HPL := hide hpl
                  have HHX := hide (hex_any x HKL.out w2x)
                  have HHL : Hid (m ≤ (hexOf x).length) := hide (by rw [hhl]; exact hm64)
                  have HD64 : Hid (decide ((64 : Int) < (m : Int)) = false) := hide (decide_eq_false (by omega))
                  have hm4i : ¬ (m : Int) < 4 := by omega
                  have hm64i : ¬ (64 : Int) < (m : Int) := by omega
                  have HM64 := hide hm64
                  rw [← hpp]
                  clear hpp hhl HSh HKx HRx HB2 HBx hm4 hm64
                  go_upto_region 27 with (first | ((with_reducible refine wpList_load_keyAt (.tmp 244) g (o + i * 32) x HKL.out HRy.out ?_ ?_ ?_ ?_); rfl; rfl; exact wanted_some (j := 12) (b := false) (t := 240) rfl (by kernel_rfl) (by first | rfl | exact congrArg Value.bool HD64.out) (by decide : (240 : Nat) < 297)) | (go_at_call 6; (with_reducible refine HHX.out.mono ?_); rintro e w3x ⟨rfl, hb3⟩; have HB3 := hide hb3; clear hb3) | ((with_reducible refine wpList_cutA (.tmp 246) (.tmp 248) (hexOf x) m HHL.out ?_ ?_ ?_ ?_ pp HPP.out ?_); rfl; rfl; rfl; exact wanted_some (j := 12) (b := false) (t := 240) rfl (by kernel_rfl) (by first | rfl | exact congrArg Value.bool HD64.out) (by decide : (240 : Nat) < 297)))
                  clear hm4i hm64i HD64
                  have HBz := hide (HBy.out.trans (HB3.out.mono HBy.out.size))
                  have HKz := hide (HKy.out.below HB3.out)
                  have HFn := hide (findS (HSW.out _ HBz.out) x m HKL.out HM64.out HKU.out (by rw [← HNU.out]; exact HNul.out) HD1.out)
                  rw [HPP.out] at HFn
                  have hz := zero_key
                  clear HHX HRy HKy HB3
                  go_upto_region 28 with (first | (go_at_call 25; (with_reducible refine HFn.out.mono ?_); rintro e w4x ⟨rfl, hb4⟩; have HB4 := hide hb4; clear hb4) | ((with_reducible refine wpList_put_key ?_ (.tmp 18) (.tmp 256) ?_ w4x.heap.size ?_ w4x ?_ ?_ x HKL.out ?_ ?_); rfl; rfl; rfl; rfl; rfl; rfl; intro w5x HK5 hb5; have HB5 := hide hb5; clear hb5))
                  obtain ⟨zf, hzf⟩ : ∃ zf, zf = w4x.heap.size := ⟨_, rfl⟩
                  have hbv : Below w9.heap.size w9 w5x := (HBz.out.trans (HB4.out.mono HBz.out.size)).trans (HB5.out.mono (HBz.out.trans (HB4.out.mono HBz.out.size)).size)
                  have HK5b : Hid (KeyAt w5x za x) := hide ((HKz.out.below HB4.out).below HB5.out)
                  have HBd := hide (hbv.trans ((below_d w5x).mono hbv.size))
                  rw [← hzf] at HK5 ⊢
                  clear hzf hbv HFn HBz HKz HB4 HB5 hz
                  refine aq_walk _ (fun _ _ _ _ _ h => h) w5x zf g o nu cl i x HKL.out hlt ⟨HK5.out.below (below_d w5x), HRX.out _ HBd.out⟩ _ (Nat.lt_of_sub_pos (by exact Nat.succ_pos _)) rfl rfl rfl rfl ?_
                  have HKd := hide (HK5b.out.below (below_d w5x))
                  obtain ⟨w6x, hw6⟩ : ∃ w6x, w6x = w5x.drew := ⟨_, rfl⟩
                  rw [← hw6] at HBd HKd ⊢
                  clear hw6 HK5 HK5b
                  simp only [Act.put, List.setIfInBounds_toArray, List.set_cons_zero, List.set_cons_succ]
                  by_cases hm5 : 4 < m
                  · have hm5i : (4 : Int) < (m : Int) := by omega
                    obtain ⟨m1, hm1⟩ : ∃ m1, m1 = m - 1 := ⟨_, rfl⟩
                    have hm1i : (m : Int) - 1 = (m1 : Int) := by omega
                    have hm64b : m ≤ 64 := HM64.out
                    have HM1 : Hid (m1 ≤ pp.length) := hide (by rw [HPL.out]; omega)
                    obtain ⟨qq, hqq⟩ : ∃ qq, qq = pp.take m1 := ⟨_, rfl⟩
                    have HQQ : Hid (pp.take m1 = qq) := hide hqq.symm
                    have hq2 : (hexOf x).take m1 = qq := by rw [hqq, ← HPP.out, List.take_take, Nat.min_eq_left (by omega)]
                    have HFt := hide (findT (HSW.out _ HBd.out) x m1 HKL.out (by omega) HKU.out (by rw [← HNU.out]; exact HNul.out) (by rw [hm1]; exact HD2.out hm5))
                    rw [hq2] at HFt
                    clear hm1 hqq hq2 hm5
                    go_upto_region 34 with (first | ((with_reducible refine wpList_cutA (.tmp 273) (.tmp 276) pp m1 HM1.out ?_ ?_ ?_ ?_ qq HQQ.out ?_); rfl; rfl; rfl; rfl) | (go_at_call 25; (with_reducible refine HFt.out.mono ?_); rintro e w7x ⟨kq, rfl, hkq, hb7⟩; have HB7 := hide hb7; clear hb7))
                    have HBn := hide (HBd.out.trans (HB7.out.mono HBd.out.size))
                    have HKn := hide (HKd.out.below HB7.out)
                    clear HB7 HBd HKd hm5i hm1i hm64b hpl
                    have HNx := hide (nextA (HSW.out _ HBn.out) x false HKL.out)
                    have HRn := hide (HRX.out _ HBn.out)
                    have HKS : Hid ((x.map u8c).toArray.size = 32) := hide (by simp [HKL.out])
                    go_wp2_with (first | ((with_reducible refine wpList_load_keyAt (.tmp 287) g (o + i * 32) x HKL.out HRn.out ?_ ?_ ?_ ?_); rfl; rfl; rfl) | (go_at_call 23; (with_reducible refine HNx.out.mono ?_); rintro e w8x ⟨k2, ok2, rfl, hk2, hL2, hb8⟩; have HK2 := hide hk2; have HL8 := hide hL2; have HB8 := hide hb8; have HK8 := hide (HKn.out.below hb8).1; have HUS : Hid ((k2.map u8c).toArray.size = 32) := hide (by simp [hk2]); have HU1 := hide (all_oneCell_toArray (u8c_one k2)); clear hk2 hL2 hb8) | ((with_reducible refine wpList_store_blk ?_ 24 (.tmp 13) (.tmp 290) ?_ za 32 (x.map u8c).toArray (k2.map u8c).toArray 24 HUS.out HKS.out ?_ ?_ HK8.out infoKey HU1.out ?_); rfl; rfl; rfl; rfl; intro w9x hk9 hg9; have HK9 := hide hk9; have HG9 := hide hg9; clear hk9 hg9))
                    have hlt8 := HK8.out.lt
                    have hb89 := HBn.out.trans (HB8.out.mono HBn.out.size)
                    rw [← HZA.out] at hb89
                    exact ⟨⟨i + 1, ok2, k2, by go_num, by omega, rfl, ⟨HK9.out, HK2.out⟩, atP_next HX1.out HX2.out HFT.out HL8.out, hb89.trans (below_grownBy HG9.out (Nat.le_refl _) (Nat.le_of_lt hlt8))⟩, by simp [intOf]; omega⟩
                  · have hm5i : ¬ (4 : Int) < (m : Int) := by omega
                    clear hm5
                    go_upto_region 34 with fail
                    have HBn := HBd
                    have HKn := HKd
                    clear HBd HKd hpl
                    have HNx := hide (nextA (HSW.out _ HBn.out) x false HKL.out)
                    have HRn := hide (HRX.out _ HBn.out)
                    have HKS : Hid ((x.map u8c).toArray.size = 32) := hide (by simp [HKL.out])
                    go_wp2_with (first | ((with_reducible refine wpList_load_keyAt (.tmp 287) g (o + i * 32) x HKL.out HRn.out ?_ ?_ ?_ ?_); rfl; rfl; rfl) | (go_at_call 23; (with_reducible refine HNx.out.mono ?_); rintro e w8x ⟨k2, ok2, rfl, hk2, hL2, hb8⟩; have HK2 := hide hk2; have HL8 := hide hL2; have HB8 := hide hb8; have HK8 := hide (HKn.out.below hb8).1; have HUS : Hid ((k2.map u8c).toArray.size = 32) := hide (by simp [hk2]); have HU1 := hide (all_oneCell_toArray (u8c_one k2)); clear hk2 hL2 hb8) | ((with_reducible refine wpList_store_blk ?_ 24 (.tmp 13) (.tmp 290) ?_ za 32 (x.map u8c).toArray (k2.map u8c).toArray 24 HUS.out HKS.out ?_ ?_ HK8.out infoKey HU1.out ?_); rfl; rfl; rfl; rfl; intro w9x hk9 hg9; have HK9 := hide hk9; have HG9 := hide hg9; clear hk9 hg9))
                    have hlt8 := HK8.out.lt
                    have hb89 := HBn.out.trans (HB8.out.mono HBn.out.size)
                    rw [← HZA.out] at hb89
                    exact ⟨⟨i + 1, ok2, k2, by go_num, by omega, rfl, ⟨HK9.out, HK2.out⟩, atP_next HX1.out HX2.out HFT.out HL8.out, hb89.trans (below_grownBy HG9.out (Nat.le_refl _) (Nat.le_of_lt hlt8))⟩, by simp [intOf]; omega⟩
                · obtain ⟨y, hy⟩ : ∃ y, y = (xs.map Subtype.val)[i - 1]'(by have := HIX.out; omega) := ⟨_, rfl⟩
                  have hyl : y.length = 32 := ((HX2.out y).1 (by rw [hy]; exact List.getElem_mem _)).1
                  have hcmp : cmpK y x = -1 := by
                    have h1 := rising_lt HX1.out (i := i - 1) (j := i) (by have := HIX.out; omega) HIX.out (by omega)
                    rw [← hy, ← HKI.out HIX.out] at h1
                    rcases cmpK_range y x with e | e | e
                    · exact e
                    · omega
                    · omega
                  have HCP : Hid (Calls Try.prog 8 #[keyV y, keyV x] wr.drew fun e w' => e = .returned (.int .i64 (-1)) ∧ Below wr.drew.heap.size wr.drew w') := hide (by
                    have := compare_any y x hyl HKL.out wr.drew
                    rw [hcmp] at this
                    exact this)
                  have HRY : Hid (∀ w', Below wr.heap.size wr w' → KeyAt w' za x ∧ w'.rangeAt g (o + i * 32) (x.map u8c) ∧ w'.rangeAt g (o + (i - 1) * 32) (y.map u8c)) := hide (fun w' hb => ⟨HKA.out.below hb, HRX.out _ (HBW.out.trans (hb.mono HBW.out.size)), by
                    rw [hy]
                    exact HRI.out w' (HBW.out.trans (hb.mono HBW.out.size)) (i - 1) (by have := HIX.out; omega)⟩)
                  have HYL := hide hyl
                  clear hyl hcmp hy
                  refine ao_walk _ (fun _ _ _ _ _ h => h) wr za g o nu cl i x y HKL.out HYL.out hlt h0i (by have := HNul.out; omega) HRY.out HCP.out _ (Nat.lt_of_sub_pos (by exact Nat.succ_pos _)) rfl rfl rfl rfl ?_
                  intro w1x hb1
                  have HB1 := hide hb1
                  clear hb1 HCP HRY HYL h0i
                  have HBx := hide (HBW.out.trans (HB1.out.mono HBW.out.size))
                  have HKx := hide (HKA.out.below HB1.out)
                  have HRx := hide (HRX.out _ HBx.out)
                  have HSh := hide (shortA (HSW.out _ HBx.out) x HKL.out HKU.out (by rw [← HNU.out]; exact HNul.out))
                  simp only [Act.put, List.setIfInBounds_toArray, List.set_cons_zero, List.set_cons_succ]
                  clear HB1
                  go_upto_region 25 with (first | ((with_reducible refine wpList_load_keyAt (.tmp 223) g (o + i * 32) x HKL.out HRx.out ?_ ?_ ?_ ?_); rfl; rfl; rfl) | (go_at_call 24; (with_reducible refine HSh.out.mono ?_); rintro e w2x ⟨m, rfl, hm4, hm64, hd1, hd2, hb2⟩; have HD1 := hide hd1; have HD2 := hide hd2; have HB2 := hide hb2; clear hd1 hd2 hb2))
                  have HBy := hide (HBx.out.trans (HB2.out.mono HBx.out.size))
                  have HKy := hide (HKx.out.below HB2.out)
                  have HRy := hide (HRX.out _ HBy.out)
                  obtain ⟨pp, hpp⟩ : ∃ pp, pp = (hexOf x).take m := ⟨_, rfl⟩
                  have hhl : (hexOf x).length = 64 := by rw [hexOf_len, HKL.out]
                  have hpl : pp.length = m := by rw [hpp, List.length_take, hhl]; omega
                  have HPP : Hid ((hexOf x).take m = pp) := hide hpp.symm
                  have HPL := hide hpl
                  have HHX := hide (hex_any x HKL.out w2x)
                  have HHL : Hid (m ≤ (hexOf x).length) := hide (by rw [hhl]; exact hm64)
                  have HD64 : Hid (decide ((64 : Int) < (m : Int)) = false) := hide (decide_eq_false (by omega))
                  have hm4i : ¬ (m : Int) < 4 := by omega
                  have hm64i : ¬ (64 : Int) < (m : Int) := by omega
                  have HM64 := hide hm64
                  rw [← hpp]
                  clear hpp hhl HSh HKx HRx HB2 HBx hm4 hm64
                  go_upto_region 27 with (first | ((with_reducible refine wpList_load_keyAt (.tmp 244) g (o + i * 32) x HKL.out HRy.out ?_ ?_ ?_ ?_); rfl; rfl; exact wanted_some (j := 12) (b := false) (t := 240) rfl (by kernel_rfl) (by first | rfl | exact congrArg Value.bool HD64.out) (by decide : (240 : Nat) < 297)) | (go_at_call 6; (with_reducible refine HHX.out.mono ?_); rintro e w3x ⟨rfl, hb3⟩; have HB3 := hide hb3; clear hb3) | ((with_reducible refine wpList_cutA (.tmp 246) (.tmp 248) (hexOf x) m HHL.out ?_ ?_ ?_ ?_ pp HPP.out ?_); rfl; rfl; rfl; exact wanted_some (j := 12) (b := false) (t := 240) rfl (by kernel_rfl) (by first | rfl | exact congrArg Value.bool HD64.out) (by decide : (240 : Nat) < 297)))
                  clear hm4i hm64i HD64
                  have HBz := hide (HBy.out.trans (HB3.out.mono HBy.out.size))
                  have HKz := hide (HKy.out.below HB3.out)
                  have HFn := hide (findS (HSW.out _ HBz.out) x m HKL.out HM64.out HKU.out (by rw [← HNU.out]; exact HNul.out) HD1.out)
                  rw [HPP.out] at HFn
                  have hz := zero_key
                  clear HHX HRy HKy HB3
                  go_upto_region 28 with (first | (go_at_call 25; (with_reducible refine HFn.out.mono ?_); rintro e w4x ⟨rfl, hb4⟩; have HB4 := hide hb4; clear hb4) | ((with_reducible refine wpList_put_key ?_ (.tmp 18) (.tmp 256) ?_ w4x.heap.size ?_ w4x ?_ ?_ x HKL.out ?_ ?_); rfl; rfl; rfl; rfl; rfl; rfl; intro w5x HK5 hb5; have HB5 := hide hb5; clear hb5))
                  obtain ⟨zf, hzf⟩ : ∃ zf, zf = w4x.heap.size := ⟨_, rfl⟩
                  have hbv : Below w9.heap.size w9 w5x := (HBz.out.trans (HB4.out.mono HBz.out.size)).trans (HB5.out.mono (HBz.out.trans (HB4.out.mono HBz.out.size)).size)
                  have HK5b : Hid (KeyAt w5x za x) := hide ((HKz.out.below HB4.out).below HB5.out)
                  have HBd := hide (hbv.trans ((below_d w5x).mono hbv.size))
                  rw [← hzf] at HK5 ⊢
                  clear hzf hbv HFn HBz HKz HB4 HB5 hz
                  refine aq_walk _ (fun _ _ _ _ _ h => h) w5x zf g o nu cl i x HKL.out hlt ⟨HK5.out.below (below_d w5x), HRX.out _ HBd.out⟩ _ (Nat.lt_of_sub_pos (by exact Nat.succ_pos _)) rfl rfl rfl rfl ?_
                  have HKd := hide (HK5b.out.below (below_d w5x))
                  obtain ⟨w6x, hw6⟩ : ∃ w6x, w6x = w5x.drew := ⟨_, rfl⟩
                  rw [← hw6] at HBd HKd ⊢
                  clear hw6 HK5 HK5b
                  simp only [Act.put, List.setIfInBounds_toArray, List.set_cons_zero, List.set_cons_succ]
                  by_cases hm5 : 4 < m
                  · have hm5i : (4 : Int) < (m : Int) := by omega
                    obtain ⟨m1, hm1⟩ : ∃ m1, m1 = m - 1 := ⟨_, rfl⟩
                    have hm1i : (m : Int) - 1 = (m1 : Int) := by omega
                    have hm64b : m ≤ 64 := HM64.out
                    have HM1 : Hid (m1 ≤ pp.length) := hide (by rw [HPL.out]; omega)
                    obtain ⟨qq, hqq⟩ : ∃ qq, qq = pp.take m1 := ⟨_, rfl⟩
                    have HQQ : Hid (pp.take m1 = qq) := hide hqq.symm
                    have hq2 : (hexOf x).take m1 = qq := by rw [hqq, ← HPP.out, List.take_take, Nat.min_eq_left (by omega)]
                    have HFt := hide (findT (HSW.out _ HBd.out) x m1 HKL.out (by omega) HKU.out (by rw [← HNU.out]; exact HNul.out) (by rw [hm1]; exact HD2.out hm5))
                    rw [hq2] at HFt
                    clear hm1 hqq hq2 hm5
                    go_upto_region 34 with (first | ((with_reducible refine wpList_cutA (.tmp 273) (.tmp 276) pp m1 HM1.out ?_ ?_ ?_ ?_ qq HQQ.out ?_); rfl; rfl; rfl; rfl) | (go_at_call 25; (with_reducible refine HFt.out.mono ?_); rintro e w7x ⟨kq, rfl, hkq, hb7⟩; have HB7 := hide hb7; clear hb7))
                    have HBn := hide (HBd.out.trans (HB7.out.mono HBd.out.size))
                    have HKn := hide (HKd.out.below HB7.out)
                    clear HB7 HBd HKd hm5i hm1i hm64b hpl
                    have HNx := hide (nextA (HSW.out _ HBn.out) x false HKL.out)
                    have HRn := hide (HRX.out _ HBn.out)
                    have HKS : Hid ((x.map u8c).toArray.size = 32) := hide (by simp [HKL.out])
                    go_wp2_with (first | ((with_reducible refine wpList_load_keyAt (.tmp 287) g (o + i * 32) x HKL.out HRn.out ?_ ?_ ?_ ?_); rfl; rfl; rfl) | (go_at_call 23; (with_reducible refine HNx.out.mono ?_); rintro e w8x ⟨k2, ok2, rfl, hk2, hL2, hb8⟩; have HK2 := hide hk2; have HL8 := hide hL2; have HB8 := hide hb8; have HK8 := hide (HKn.out.below hb8).1; have HUS : Hid ((k2.map u8c).toArray.size = 32) := hide (by simp [hk2]); have HU1 := hide (all_oneCell_toArray (u8c_one k2)); clear hk2 hL2 hb8) | ((with_reducible refine wpList_store_blk ?_ 24 (.tmp 13) (.tmp 290) ?_ za 32 (x.map u8c).toArray (k2.map u8c).toArray 24 HUS.out HKS.out ?_ ?_ HK8.out infoKey HU1.out ?_); rfl; rfl; rfl; rfl; intro w9x hk9 hg9; have HK9 := hide hk9; have HG9 := hide hg9; clear hk9 hg9))
                    have hlt8 := HK8.out.lt
                    have hb89 := HBn.out.trans (HB8.out.mono HBn.out.size)
                    rw [← HZA.out] at hb89
                    exact ⟨⟨i + 1, ok2, k2, by go_num, by omega, rfl, ⟨HK9.out, HK2.out⟩, atP_next HX1.out HX2.out HFT.out HL8.out, hb89.trans (below_grownBy HG9.out (Nat.le_refl _) (Nat.le_of_lt hlt8))⟩, by simp [intOf]; omega⟩
                  · have hm5i : ¬ (4 : Int) < (m : Int) := by omega
                    clear hm5
                    go_upto_region 34 with fail
                    have HBn := HBd
                    have HKn := HKd
                    clear HBd HKd hpl
                    have HNx := hide (nextA (HSW.out _ HBn.out) x false HKL.out)
                    have HRn := hide (HRX.out _ HBn.out)
                    have HKS : Hid ((x.map u8c).toArray.size = 32) := hide (by simp [HKL.out])
                    go_wp2_with (first | ((with_reducible refine wpList_load_keyAt (.tmp 287) g (o + i * 32) x HKL.out HRn.out ?_ ?_ ?_ ?_); rfl; rfl; rfl) | (go_at_call 23; (with_reducible refine HNx.out.mono ?_); rintro e w8x ⟨k2, ok2, rfl, hk2, hL2, hb8⟩; have HK2 := hide hk2; have HL8 := hide hL2; have HB8 := hide hb8; have HK8 := hide (HKn.out.below hb8).1; have HUS : Hid ((k2.map u8c).toArray.size = 32) := hide (by simp [hk2]); have HU1 := hide (all_oneCell_toArray (u8c_one k2)); clear hk2 hL2 hb8) | ((with_reducible refine wpList_store_blk ?_ 24 (.tmp 13) (.tmp 290) ?_ za 32 (x.map u8c).toArray (k2.map u8c).toArray 24 HUS.out HKS.out ?_ ?_ HK8.out infoKey HU1.out ?_); rfl; rfl; rfl; rfl; intro w9x hk9 hg9; have HK9 := hide hk9; have HG9 := hide hg9; clear hk9 hg9))
                    have hlt8 := HK8.out.lt
                    have hb89 := HBn.out.trans (HB8.out.mono HBn.out.size)
                    rw [← HZA.out] at hb89
                    exact ⟨⟨i + 1, ok2, k2, by go_num, by omega, rfl, ⟨HK9.out, HK2.out⟩, atP_next HX1.out HX2.out HFT.out HL8.out, hb89.trans (below_grownBy HG9.out (Nat.le_refl _) (Nat.le_of_lt hlt8))⟩, by simp [intOf]; omega⟩
              · have hji3 : ¬ (i : Int) < (nu : Int) := by omega
                have hokf : ok = false := hAP.2 (by rw [List.length_map, HXL.out]; omega)
                subst hokf
                have HWK := hide (works_any wr)
                have HBE : Hid (Below w.heap.size w wr) := hide ((HS9.out.below hbw).bel)
                clear hKA hAP hBl hbw
                go_wp2_with (go_at_call 9; (with_reducible refine HWK.out.mono ?_); rintro e w' ⟨rfl, hb⟩)
                go_ret
                exact ⟨rfl, HBE.out.trans (hb.mono HBE.out.size)⟩
  · have hp1 : (0 : Int) < (na0 : Int) := by omega
    have hp2 : ¬ (na : Int) = 0 := by have := hpos h0; omega
    clear hpos h0
    go_upto_region 5 with (first | (go_at_call 17; (with_reducible refine HLu.out.mono ?_); rintro e w' ⟨rfl, hw⟩; rw [hw]; clear hw) | (go_at_call 17; (with_reducible refine HLv.out.mono ?_); rintro e w' ⟨rfl, hw⟩; rw [hw]; clear hw) | (go_at_call 17; (with_reducible refine HLs.out.mono ?_); rintro e w' ⟨rfl, hw⟩; rw [hw]; clear hw) | (go_at_call 17; (with_reducible refine HLt.out.mono ?_); rintro e w' ⟨rfl, hw⟩; rw [hw]; clear hw) | (go_at_call 17; (with_reducible refine HLm.out.mono ?_); rintro e w' ⟨rfl, hw⟩; rw [hw]; clear hw))
    clear hp1 hp2 q1 q2 HLs HLt HLv HLm HLu
    go_upto_region 6 with (go_at_call 21; (with_reducible refine HTo.out.mono ?_); rintro e w7 ⟨vl, xs, rfl, hx1, hx2, hx3, hx4⟩; have HX1 := hide hx1; have HX2 := hide hx2; have HX3 := hide hx3; have HX4 := hide hx4; obtain ⟨al, cl, hf⟩ := own_formK hx3; subst hf; clear hx1 hx2 hx3 hx4)
    have hxl : xs.length = nu := by rw [HNU.out]; exact told_len HU6.out.nd HU6.out.l32 HX1.out HX2.out
    have HLu7 := hide (HU6.out.below HX4.out).len
    rw [← HNU.out] at HLu7
    have HR7 := hide (own_krow HX3.out)
    have HS7 := hide (HS6.out.below HX4.out)
    have HXL := hide hxl
    rw [hxl]
    clear HX3 HX4 HS6 HTo hxl HU6
    go_upto_region 9 with (go_at_call 17; (with_reducible refine HLu7.out.mono ?_); rintro e w' ⟨rfl, hw⟩; rw [hw]; clear hw)
    go_loopw [11] (fun t wr => ∃ i : Nat, t = .int .i64 i ∧ i ≤ na0 ∧ AlS w aa ab ka kb zs zt zu zv zm U V M wr ∧ KRow wr al (xs.map Subtype.val)) (fun t _ => na0 - (intOf t).toNat)
    case atStart => exact ⟨0, rfl, by omega, HS7.out, HR7.out⟩
    case round =>
      clear HS7 HR7 HLu7
      obtain ⟨i, rfl, hi, hS, hR⟩ := hrel
      by_cases hlt : i < na0
      · have hik : i < ka.length := by rw [← HNA0.out]; exact hlt
        obtain ⟨g, o, hao, hra⟩ := hS.ra.at' i hik
        obtain ⟨k, hk⟩ : ∃ k, k = ka[i] := ⟨_, rfl⟩
        have hkl : k.length = 32 := by rw [hk]; exact hS.ra.len _ (List.getElem_mem _)
        have hkA : k ∈ addAll ka := (mem_addAll ka k).2 (by rw [hk]; exact List.getElem_mem _)
        rw [← hk] at hra
        have HRA : Hid (∀ w', Below wr.heap.size wr w' → w'.rangeAt g (o + i * 32) (k.map u8c)) := hide (fun w' hb => rangeAt_belowK hra hb)
        have hv : decide (k ∈ V) = decide (k ∈ addAll kb) := by
          rw [decide_eq_decide, HVm.out k]
          exact ⟨fun h => h.2.2, fun h => ⟨hkl, hkA, h⟩⟩
        have hm : decide (k ∈ M) = !decide (k ∈ addAll kb) := by
          rw [← decide_not, decide_eq_decide, HMm.out k]
          exact ⟨fun h => h.2.2, fun h => ⟨hkl, hkA, h⟩⟩
        have HHs := hide (hasA hS.s k hkl (decide_eq_true hkA))
        have HHt := hide (hasA hS.t k hkl rfl)
        have HHu := hide (hasA hS.u k hkl (decide_eq_true ((HUm.out k).2 ⟨hkl, .inl hkA⟩)))
        have HHv := hide (hasA hS.v k hkl hv)
        have HHm := hide (hasA hS.m k hkl hm)
        have hji : (i : Int) < (na0 : Int) := by omega
        have HS := hide hS
        have HR := hide hR
        have HKL := hide hkl
        generalize decide (k ∈ addAll kb) = bk at *
        subst hao
        clear hkA hv hm hk hra hS hR hkl hik
        go_upto_region 11 with fail
        refine al_walk _ (fun _ _ _ _ _ h => h) wr zs zt zu zv zm g o na0 ca i k bk HKL.out hlt HRA.out HHs.out HHu.out HHv.out HHt.out HHm.out _ (Nat.lt_of_sub_pos (by exact Nat.succ_pos _)) rfl rfl rfl rfl rfl rfl rfl ?_
        intro w8 hb8
        have HS8 := hide (HS.out.below hb8)
        have HR8 := hide (HR.out.below hb8)
        simp only [Act.put, List.setIfInBounds_toArray, List.set_cons_zero, List.set_cons_succ]
        clear hb8 HS HR HHs HHt HHu HHv HHm HRA
        go_wp2
        exact ⟨⟨i + 1, by go_num, by omega, HS8.out, HR8.out⟩, by simp [intOf]; omega⟩
      · have hji : ¬ (i : Int) < (na0 : Int) := by omega
        have HS7 := hide hS
        have HR7 := hide hR
        clear hS hR
        obtain ⟨wa, hwa⟩ : ∃ wa, wa = wr := ⟨_, rfl⟩
        rw [← hwa] at HS7 HR7 ⊢
        clear hwa
        go_wp2
        go_loopw [12] (fun t wr => ∃ i : Nat, t = .int .i64 i ∧ i ≤ nb0 ∧ AlS w aa ab ka kb zs zt zu zv zm U V M wr ∧ KRow wr al (xs.map Subtype.val)) (fun t _ => nb0 - (intOf t).toNat)
        case atStart => exact ⟨0, rfl, by omega, HS7.out, HR7.out⟩
        case round =>
          clear HS7 HR7
          obtain ⟨i, rfl, hi, hS, hR⟩ := hrel
          by_cases hlt : i < nb0
          · have hik : i < kb.length := by rw [← HNB0.out]; exact hlt
            obtain ⟨g, o, hao, hra⟩ := hS.rb.at' i hik
            obtain ⟨k, hk⟩ : ∃ k, k = kb[i] := ⟨_, rfl⟩
            have hkl : k.length = 32 := by rw [hk]; exact hS.rb.len _ (List.getElem_mem _)
            have hkB : k ∈ addAll kb := (mem_addAll kb k).2 (by rw [hk]; exact List.getElem_mem _)
            rw [← hk] at hra
            have HRA : Hid (∀ w', Below wr.heap.size wr w' → w'.rangeAt g (o + i * 32) (k.map u8c)) := hide (fun w' hb => rangeAt_belowK hra hb)
            have hv : decide (k ∈ V) = decide (k ∈ addAll ka) := by
              rw [decide_eq_decide, HVm.out k]
              exact ⟨fun h => h.2.1, fun h => ⟨hkl, h, hkB⟩⟩
            have HHs := hide (hasA hS.s k hkl rfl)
            have HHt := hide (hasA hS.t k hkl (decide_eq_true hkB))
            have HHu := hide (hasA hS.u k hkl (decide_eq_true ((HUm.out k).2 ⟨hkl, .inr hkB⟩)))
            have HHv := hide (hasA hS.v k hkl hv)
            have HHm := hide (hasA hS.m k hkl (decide_eq_false (fun h => ((HMm.out k).1 h).2.2 hkB)))
            have hji2 : (i : Int) < (nb0 : Int) := by omega
            have HS := hide hS
            have HR := hide hR
            have HKL := hide hkl
            generalize decide (k ∈ addAll ka) = bk at *
            subst hao
            clear hkB hv hk hra hS hR hkl hik
            go_upto_region 16 with fail
            refine am_walk _ (fun _ _ _ _ _ h => h) wr zs zt zu zv zm g o nb0 cb i k bk HKL.out hlt HRA.out HHs.out HHu.out HHv.out HHt.out HHm.out _ (Nat.lt_of_sub_pos (by exact Nat.succ_pos _)) rfl rfl rfl rfl rfl rfl rfl ?_
            intro w8 hb8
            have HS8 := hide (HS.out.below hb8)
            have HR8 := hide (HR.out.below hb8)
            simp only [Act.put, List.setIfInBounds_toArray, List.set_cons_zero, List.set_cons_succ]
            clear hb8 HS HR HHs HHt HHu HHv HHm HRA
            go_wp2
            exact ⟨⟨i + 1, by go_num, by omega, HS8.out, HR8.out⟩, by simp [intOf]; omega⟩
          · have hji2 : ¬ (i : Int) < (nb0 : Int) := by omega
            have HS7 := hide hS
            have HR7 := hide hR
            have HXU := hide (nextA hS.u k255 true k255_len)
            clear hS hR
            obtain ⟨wb, hwb⟩ : ∃ wb, wb = wr := ⟨_, rfl⟩
            rw [← hwb] at HS7 HR7 HXU ⊢
            clear hwb
            have hz := zero_key
            go_upto_region 19 with (first | ((with_reducible refine wpList_K255 ?_ ?_ ?_); rfl; rfl) | (go_at_call 23; (with_reducible refine HXU.out.mono ?_); rintro e w9 ⟨k9, ok9, rfl, hk9, hL9, hb9⟩; have HK9 := hide hk9; have HL9 := hide hL9; have HB9 := hide hb9; clear hk9 hL9 hb9) | ((with_reducible refine wpList_put_key ?_ (.tmp 13) (.tmp 184) ?_ w9.heap.size ?_ w9 ?_ ?_ k9 HK9.out ?_ ?_); rfl; rfl; rfl; rfl; rfl; rfl; intro wc HKc hbc))
            have HS9 := hide (HS7.out.below HB9.out)
            have HR9 := hide (HR7.out.below HB9.out)
            obtain ⟨za, hza⟩ : ∃ za, za = w9.heap.size := ⟨_, rfl⟩
            have HZA := hide hza
            have HAt : Hid (∃ x, KeyAt wc za x ∧ AtP (xs.map Subtype.val) 0 x ok9) := hide ⟨k9, by rw [hza]; exact HKc.out, atP_begin HX1.out HX2.out HL9.out⟩
            have HBc : Hid (Below za w9 wc) := hide (by rw [hza]; exact hbc)
            rw [← hza]
            clear hza HXU HK9 HL9 HKc hbc hz HS7 HR7 HB9
            go_wp2
            go_loopw [14, 15] (fun t u wr => ∃ (i : Nat) (ok : Bool) (x : List UInt8), u = .int .i64 i ∧ i ≤ nu ∧ t = .bool ok ∧ KeyAt wr za x ∧ AtP (xs.map Subtype.val) i x ok ∧ Below za w9 wr) (fun _ u _ => nu - (intOf u).toNat)
            case atStart => obtain ⟨x, h1, h2⟩ := HAt.out; exact ⟨0, _, x, rfl, by omega, rfl, h1, h2, HBc.out⟩
            case round =>
              clear HAt HBc
              obtain ⟨i, ok, x, rfl, hi, rfl, hKA, hAP, hBl⟩ := hrel
              have hbw : Below w9.heap.size w9 wr := by rw [← HZA.out]; exact hBl
              by_cases hlt : i < nu
              · have hix : i < (xs.map Subtype.val).length := by rw [List.length_map, HXL.out]; exact hlt
                obtain ⟨rfl, hxk⟩ := hAP.1 hix
                obtain ⟨k, hk⟩ : ∃ k, k = (xs.map Subtype.val)[i] := ⟨_, rfl⟩
                rw [← hk] at hxk
                subst hxk
                have hkU0 := (HX2.out x).1 (by rw [hk]; exact List.getElem_mem _)
                have hkl := hkU0.1
                have HKL := hide hkl
                have HKU := hide hkU0.2
                obtain ⟨g, o, hal, hra0⟩ := (HR9.out.below hbw).at' i hix
                have HRX : Hid (∀ w', Below w9.heap.size w9 w' → w'.rangeAt g (o + i * 32) (x.map u8c)) := hide (fun w' hb => by
                  obtain ⟨g', o', e, h2⟩ := (HR9.out.below hb).at' i hix
                  rw [hal] at e
                  cases e
                  rw [hk]; exact h2)
                have HRI : Hid (∀ (w' : World) (hb : Below w9.heap.size w9 w') (j : Nat) (hj : j < (xs.map Subtype.val).length), w'.rangeAt g (o + j * 32) (((xs.map Subtype.val)[j]).map u8c)) := hide (fun w' hb j hj => by
                  obtain ⟨g', o', e, h2⟩ := (HR9.out.below hb).at' j hj
                  rw [hal] at e
                  cases e
                  exact h2)
                have hji3 : (i : Int) < (nu : Int) := by omega
                have HIX := hide hix
                have HKI : Hid (∀ h : i < (xs.map Subtype.val).length, x = (xs.map Subtype.val)[i]) := hide (fun _ => hk)
                have HBW := hide hbw
                have HKA := hide hKA
                have HSW : Hid (∀ w', Below w9.heap.size w9 w' → StA w' zu U) := hide (fun w' hb => (HS9.out.below hb).u)
                have HFT : Hid (FitsAll (xs.map Subtype.val) x i) := hide (by rw [hk]; exact fits_after HX1.out hix)
                have hal' := hal
                subst hal'
                clear hra0 hkU0 hkl hk hKA hAP hBl hbw hix hal
                go_upto_region 22 with fail
                rcases Nat.eq_zero_or_pos i with h0i | h0i
                · refine an_walk _ (fun _ _ _ _ _ h => h) wr za g o nu cl i x HKL.out hlt h0i ⟨HKA.out.below (below_d wr), HRX.out _ (HBW.out.trans ((below_d wr).mono HBW.out.size)), trivial⟩ _ (Nat.lt_of_sub_pos (by exact Nat.succ_pos _)) rfl rfl rfl rfl ?_
                  clear h0i
                  have HB1 := hide (below_d wr)
                  obtain ⟨w1x, hw1⟩ : ∃ w1x, w1x = wr.drew := ⟨_, rfl⟩
                  rw [← hw1] at HB1 ⊢
                  clear hw1
                  have HBx := hide (HBW.out.trans (HB1.out.mono HBW.out.size))
                  have HKx := hide (HKA.out.below HB1.out)
                  have HRx := hide (HRX.out _ HBx.out)
                  have HSh := hide (shortA (HSW.out _ HBx.out) x HKL.out HKU.out (by rw [← HNU.out]; exact HNul.out))
                  simp only [Act.put, List.setIfInBounds_toArray, List.set_cons_zero, List.set_cons_succ]
                  clear HB1
                  go_upto_region 25 with (first | ((with_reducible refine wpList_load_keyAt (.tmp 223) g (o + i * 32) x HKL.out HRx.out ?_ ?_ ?_ ?_); rfl; rfl; rfl) | (go_at_call 24; (with_reducible refine HSh.out.mono ?_); rintro e w2x ⟨m, rfl, hm4, hm64, hd1, hd2, hb2⟩; have HD1 := hide hd1; have HD2 := hide hd2; have HB2 := hide hb2; clear hd1 hd2 hb2))
                  have HBy := hide (HBx.out.trans (HB2.out.mono HBx.out.size))
                  have HKy := hide (HKx.out.below HB2.out)
                  have HRy := hide (HRX.out _ HBy.out)
                  obtain ⟨pp, hpp⟩ : ∃ pp, pp = (hexOf x).take m := ⟨_, rfl⟩
                  have hhl : (hexOf x).length = 64 := by rw [hexOf_len, HKL.out]
                  have hpl : pp.length = m := by rw [hpp, List.length_take, hhl]; omega
                  have HPP : Hid ((hexOf x).take m = pp) := hide hpp.symm
                  have HPL := hide hpl
                  have HHX := hide (hex_any x HKL.out w2x)
                  have HHL : Hid (m ≤ (hexOf x).length) := hide (by rw [hhl]; exact hm64)
                  have HD64 : Hid (decide ((64 : Int) < (m : Int)) = false) := hide (decide_eq_false (by omega))
                  have hm4i : ¬ (m : Int) < 4 := by omega
                  have hm64i : ¬ (64 : Int) < (m : Int) := by omega
                  have HM64 := hide hm64
                  rw [← hpp]
                  clear hpp hhl HSh HKx HRx HB2 HBx hm4 hm64
                  go_upto_region 27 with (first | ((with_reducible refine wpList_load_keyAt (.tmp 244) g (o + i * 32) x HKL.out HRy.out ?_ ?_ ?_ ?_); rfl; rfl; exact wanted_some (j := 12) (b := false) (t := 240) rfl (by kernel_rfl) (by first | rfl | exact congrArg Value.bool HD64.out) (by decide : (240 : Nat) < 297)) | (go_at_call 6; (with_reducible refine HHX.out.mono ?_); rintro e w3x ⟨rfl, hb3⟩; have HB3 := hide hb3; clear hb3) | ((with_reducible refine wpList_cutA (.tmp 246) (.tmp 248) (hexOf x) m HHL.out ?_ ?_ ?_ ?_ pp HPP.out ?_); rfl; rfl; rfl; exact wanted_some (j := 12) (b := false) (t := 240) rfl (by kernel_rfl) (by first | rfl | exact congrArg Value.bool HD64.out) (by decide : (240 : Nat) < 297)))
                  clear hm4i hm64i HD64
                  have HBz := hide (HBy.out.trans (HB3.out.mono HBy.out.size))
                  have HKz := hide (HKy.out.below HB3.out)
                  have HFn := hide (findS (HSW.out _ HBz.out) x m HKL.out HM64.out HKU.out (by rw [← HNU.out]; exact HNul.out) HD1.out)
                  rw [HPP.out] at HFn
                  have hz := zero_key
                  clear HHX HRy HKy HB3
                  go_upto_region 28 with (first | (go_at_call 25; (with_reducible refine HFn.out.mono ?_); rintro e w4x ⟨rfl, hb4⟩; have HB4 := hide hb4; clear hb4) | ((with_reducible refine wpList_put_key ?_ (.tmp 18) (.tmp 256) ?_ w4x.heap.size ?_ w4x ?_ ?_ x HKL.out ?_ ?_); rfl; rfl; rfl; rfl; rfl; rfl; intro w5x HK5 hb5; have HB5 := hide hb5; clear hb5))
                  obtain ⟨zf, hzf⟩ : ∃ zf, zf = w4x.heap.size := ⟨_, rfl⟩
                  have hbv : Below w9.heap.size w9 w5x := (HBz.out.trans (HB4.out.mono HBz.out.size)).trans (HB5.out.mono (HBz.out.trans (HB4.out.mono HBz.out.size)).size)
                  have HK5b : Hid (KeyAt w5x za x) := hide ((HKz.out.below HB4.out).below HB5.out)
                  have HBd := hide (hbv.trans ((below_d w5x).mono hbv.size))
                  rw [← hzf] at HK5 ⊢
                  clear hzf hbv HFn HBz HKz HB4 HB5 hz
                  refine aq_walk _ (fun _ _ _ _ _ h => h) w5x zf g o nu cl i x HKL.out hlt ⟨HK5.out.below (below_d w5x), HRX.out _ HBd.out⟩ _ (Nat.lt_of_sub_pos (by exact Nat.succ_pos _)) rfl rfl rfl rfl ?_
                  have HKd := hide (HK5b.out.below (below_d w5x))
                  obtain ⟨w6x, hw6⟩ : ∃ w6x, w6x = w5x.drew := ⟨_, rfl⟩
                  rw [← hw6] at HBd HKd ⊢
                  clear hw6 HK5 HK5b
                  simp only [Act.put, List.setIfInBounds_toArray, List.set_cons_zero, List.set_cons_succ]
                  by_cases hm5 : 4 < m
                  · have hm5i : (4 : Int) < (m : Int) := by omega
                    obtain ⟨m1, hm1⟩ : ∃ m1, m1 = m - 1 := ⟨_, rfl⟩
                    have hm1i : (m : Int) - 1 = (m1 : Int) := by omega
                    have hm64b : m ≤ 64 := HM64.out
                    have HM1 : Hid (m1 ≤ pp.length) := hide (by rw [HPL.out]; omega)
                    obtain ⟨qq, hqq⟩ : ∃ qq, qq = pp.take m1 := ⟨_, rfl⟩
                    have HQQ : Hid (pp.take m1 = qq) := hide hqq.symm
                    have hq2 : (hexOf x).take m1 = qq := by rw [hqq, ← HPP.out, List.take_take, Nat.min_eq_left (by omega)]
                    have HFt := hide (findT (HSW.out _ HBd.out) x m1 HKL.out (by omega) HKU.out (by rw [← HNU.out]; exact HNul.out) (by rw [hm1]; exact HD2.out hm5))
                    rw [hq2] at HFt
                    clear hm1 hqq hq2 hm5
                    go_upto_region 34 with (first | ((with_reducible refine wpList_cutA (.tmp 273) (.tmp 276) pp m1 HM1.out ?_ ?_ ?_ ?_ qq HQQ.out ?_); rfl; rfl; rfl; rfl) | (go_at_call 25; (with_reducible refine HFt.out.mono ?_); rintro e w7x ⟨kq, rfl, hkq, hb7⟩; have HB7 := hide hb7; clear hb7))
                    have HBn := hide (HBd.out.trans (HB7.out.mono HBd.out.size))
                    have HKn := hide (HKd.out.below HB7.out)
                    clear HB7 HBd HKd hm5i hm1i hm64b hpl
                    have HNx := hide (nextA (HSW.out _ HBn.out) x false HKL.out)
                    have HRn := hide (HRX.out _ HBn.out)
                    have HKS : Hid ((x.map u8c).toArray.size = 32) := hide (by simp [HKL.out])
                    go_wp2_with (first | ((with_reducible refine wpList_load_keyAt (.tmp 287) g (o + i * 32) x HKL.out HRn.out ?_ ?_ ?_ ?_); rfl; rfl; rfl) | (go_at_call 23; (with_reducible refine HNx.out.mono ?_); rintro e w8x ⟨k2, ok2, rfl, hk2, hL2, hb8⟩; have HK2 := hide hk2; have HL8 := hide hL2; have HB8 := hide hb8; have HK8 := hide (HKn.out.below hb8).1; have HUS : Hid ((k2.map u8c).toArray.size = 32) := hide (by simp [hk2]); have HU1 := hide (all_oneCell_toArray (u8c_one k2)); clear hk2 hL2 hb8) | ((with_reducible refine wpList_store_blk ?_ 24 (.tmp 13) (.tmp 290) ?_ za 32 (x.map u8c).toArray (k2.map u8c).toArray 24 HUS.out HKS.out ?_ ?_ HK8.out infoKey HU1.out ?_); rfl; rfl; rfl; rfl; intro w9x hk9 hg9; have HK9 := hide hk9; have HG9 := hide hg9; clear hk9 hg9))
                    have hlt8 := HK8.out.lt
                    have hb89 := HBn.out.trans (HB8.out.mono HBn.out.size)
                    rw [← HZA.out] at hb89
                    exact ⟨⟨i + 1, ok2, k2, by go_num, by omega, rfl, ⟨HK9.out, HK2.out⟩, atP_next HX1.out HX2.out HFT.out HL8.out, hb89.trans (below_grownBy HG9.out (Nat.le_refl _) (Nat.le_of_lt hlt8))⟩, by simp [intOf]; omega⟩
                  · have hm5i : ¬ (4 : Int) < (m : Int) := by omega
                    clear hm5
                    go_upto_region 34 with fail
                    have HBn := HBd
                    have HKn := HKd
                    clear HBd HKd hpl
                    have HNx := hide (nextA (HSW.out _ HBn.out) x false HKL.out)
                    have HRn := hide (HRX.out _ HBn.out)
                    have HKS : Hid ((x.map u8c).toArray.size = 32) := hide (by simp [HKL.out])
                    go_wp2_with (first | ((with_reducible refine wpList_load_keyAt (.tmp 287) g (o + i * 32) x HKL.out HRn.out ?_ ?_ ?_ ?_); rfl; rfl; rfl) | (go_at_call 23; (with_reducible refine HNx.out.mono ?_); rintro e w8x ⟨k2, ok2, rfl, hk2, hL2, hb8⟩; have HK2 := hide hk2; have HL8 := hide hL2; have HB8 := hide hb8; have HK8 := hide (HKn.out.below hb8).1; have HUS : Hid ((k2.map u8c).toArray.size = 32) := hide (by simp [hk2]); have HU1 := hide (all_oneCell_toArray (u8c_one k2)); clear hk2 hL2 hb8) | ((with_reducible refine wpList_store_blk ?_ 24 (.tmp 13) (.tmp 290) ?_ za 32 (x.map u8c).toArray (k2.map u8c).toArray 24 HUS.out HKS.out ?_ ?_ HK8.out infoKey HU1.out ?_); rfl; rfl; rfl; rfl; intro w9x hk9 hg9; have HK9 := hide hk9; have HG9 := hide hg9; clear hk9 hg9))
                    have hlt8 := HK8.out.lt
                    have hb89 := HBn.out.trans (HB8.out.mono HBn.out.size)
                    rw [← HZA.out] at hb89
                    exact ⟨⟨i + 1, ok2, k2, by go_num, by omega, rfl, ⟨HK9.out, HK2.out⟩, atP_next HX1.out HX2.out HFT.out HL8.out, hb89.trans (below_grownBy HG9.out (Nat.le_refl _) (Nat.le_of_lt hlt8))⟩, by simp [intOf]; omega⟩
                · obtain ⟨y, hy⟩ : ∃ y, y = (xs.map Subtype.val)[i - 1]'(by have := HIX.out; omega) := ⟨_, rfl⟩
                  have hyl : y.length = 32 := ((HX2.out y).1 (by rw [hy]; exact List.getElem_mem _)).1
                  have hcmp : cmpK y x = -1 := by
                    have h1 := rising_lt HX1.out (i := i - 1) (j := i) (by have := HIX.out; omega) HIX.out (by omega)
                    rw [← hy, ← HKI.out HIX.out] at h1
                    rcases cmpK_range y x with e | e | e
                    · exact e
                    · omega
                    · omega
                  have HCP : Hid (Calls Try.prog 8 #[keyV y, keyV x] wr.drew fun e w' => e = .returned (.int .i64 (-1)) ∧ Below wr.drew.heap.size wr.drew w') := hide (by
                    have := compare_any y x hyl HKL.out wr.drew
                    rw [hcmp] at this
                    exact this)
                  have HRY : Hid (∀ w', Below wr.heap.size wr w' → KeyAt w' za x ∧ w'.rangeAt g (o + i * 32) (x.map u8c) ∧ w'.rangeAt g (o + (i - 1) * 32) (y.map u8c)) := hide (fun w' hb => ⟨HKA.out.below hb, HRX.out _ (HBW.out.trans (hb.mono HBW.out.size)), by
                    rw [hy]
                    exact HRI.out w' (HBW.out.trans (hb.mono HBW.out.size)) (i - 1) (by have := HIX.out; omega)⟩)
                  have HYL := hide hyl
                  clear hyl hcmp hy
                  refine ao_walk _ (fun _ _ _ _ _ h => h) wr za g o nu cl i x y HKL.out HYL.out hlt h0i (by have := HNul.out; omega) HRY.out HCP.out _ (Nat.lt_of_sub_pos (by exact Nat.succ_pos _)) rfl rfl rfl rfl ?_
                  intro w1x hb1
                  have HB1 := hide hb1
                  clear hb1 HCP HRY HYL h0i
                  have HBx := hide (HBW.out.trans (HB1.out.mono HBW.out.size))
                  have HKx := hide (HKA.out.below HB1.out)
                  have HRx := hide (HRX.out _ HBx.out)
                  have HSh := hide (shortA (HSW.out _ HBx.out) x HKL.out HKU.out (by rw [← HNU.out]; exact HNul.out))
                  simp only [Act.put, List.setIfInBounds_toArray, List.set_cons_zero, List.set_cons_succ]
                  clear HB1
                  go_upto_region 25 with (first | ((with_reducible refine wpList_load_keyAt (.tmp 223) g (o + i * 32) x HKL.out HRx.out ?_ ?_ ?_ ?_); rfl; rfl; rfl) | (go_at_call 24; (with_reducible refine HSh.out.mono ?_); rintro e w2x ⟨m, rfl, hm4, hm64, hd1, hd2, hb2⟩; have HD1 := hide hd1; have HD2 := hide hd2; have HB2 := hide hb2; clear hd1 hd2 hb2))
                  have HBy := hide (HBx.out.trans (HB2.out.mono HBx.out.size))
                  have HKy := hide (HKx.out.below HB2.out)
                  have HRy := hide (HRX.out _ HBy.out)
                  obtain ⟨pp, hpp⟩ : ∃ pp, pp = (hexOf x).take m := ⟨_, rfl⟩
                  have hhl : (hexOf x).length = 64 := by rw [hexOf_len, HKL.out]
                  have hpl : pp.length = m := by rw [hpp, List.length_take, hhl]; omega
                  have HPP : Hid ((hexOf x).take m = pp) := hide hpp.symm
                  have HPL := hide hpl
                  have HHX := hide (hex_any x HKL.out w2x)
                  have HHL : Hid (m ≤ (hexOf x).length) := hide (by rw [hhl]; exact hm64)
                  have HD64 : Hid (decide ((64 : Int) < (m : Int)) = false) := hide (decide_eq_false (by omega))
                  have hm4i : ¬ (m : Int) < 4 := by omega
                  have hm64i : ¬ (64 : Int) < (m : Int) := by omega
                  have HM64 := hide hm64
                  rw [← hpp]
                  clear hpp hhl HSh HKx HRx HB2 HBx hm4 hm64
                  go_upto_region 27 with (first | ((with_reducible refine wpList_load_keyAt (.tmp 244) g (o + i * 32) x HKL.out HRy.out ?_ ?_ ?_ ?_); rfl; rfl; exact wanted_some (j := 12) (b := false) (t := 240) rfl (by kernel_rfl) (by first | rfl | exact congrArg Value.bool HD64.out) (by decide : (240 : Nat) < 297)) | (go_at_call 6; (with_reducible refine HHX.out.mono ?_); rintro e w3x ⟨rfl, hb3⟩; have HB3 := hide hb3; clear hb3) | ((with_reducible refine wpList_cutA (.tmp 246) (.tmp 248) (hexOf x) m HHL.out ?_ ?_ ?_ ?_ pp HPP.out ?_); rfl; rfl; rfl; exact wanted_some (j := 12) (b := false) (t := 240) rfl (by kernel_rfl) (by first | rfl | exact congrArg Value.bool HD64.out) (by decide : (240 : Nat) < 297)))
                  clear hm4i hm64i HD64
                  have HBz := hide (HBy.out.trans (HB3.out.mono HBy.out.size))
                  have HKz := hide (HKy.out.below HB3.out)
                  have HFn := hide (findS (HSW.out _ HBz.out) x m HKL.out HM64.out HKU.out (by rw [← HNU.out]; exact HNul.out) HD1.out)
                  rw [HPP.out] at HFn
                  have hz := zero_key
                  clear HHX HRy HKy HB3
                  go_upto_region 28 with (first | (go_at_call 25; (with_reducible refine HFn.out.mono ?_); rintro e w4x ⟨rfl, hb4⟩; have HB4 := hide hb4; clear hb4) | ((with_reducible refine wpList_put_key ?_ (.tmp 18) (.tmp 256) ?_ w4x.heap.size ?_ w4x ?_ ?_ x HKL.out ?_ ?_); rfl; rfl; rfl; rfl; rfl; rfl; intro w5x HK5 hb5; have HB5 := hide hb5; clear hb5))
                  obtain ⟨zf, hzf⟩ : ∃ zf, zf = w4x.heap.size := ⟨_, rfl⟩
                  have hbv : Below w9.heap.size w9 w5x := (HBz.out.trans (HB4.out.mono HBz.out.size)).trans (HB5.out.mono (HBz.out.trans (HB4.out.mono HBz.out.size)).size)
                  have HK5b : Hid (KeyAt w5x za x) := hide ((HKz.out.below HB4.out).below HB5.out)
                  have HBd := hide (hbv.trans ((below_d w5x).mono hbv.size))
                  rw [← hzf] at HK5 ⊢
                  clear hzf hbv HFn HBz HKz HB4 HB5 hz
                  refine aq_walk _ (fun _ _ _ _ _ h => h) w5x zf g o nu cl i x HKL.out hlt ⟨HK5.out.below (below_d w5x), HRX.out _ HBd.out⟩ _ (Nat.lt_of_sub_pos (by exact Nat.succ_pos _)) rfl rfl rfl rfl ?_
                  have HKd := hide (HK5b.out.below (below_d w5x))
                  obtain ⟨w6x, hw6⟩ : ∃ w6x, w6x = w5x.drew := ⟨_, rfl⟩
                  rw [← hw6] at HBd HKd ⊢
                  clear hw6 HK5 HK5b
                  simp only [Act.put, List.setIfInBounds_toArray, List.set_cons_zero, List.set_cons_succ]
                  by_cases hm5 : 4 < m
                  · have hm5i : (4 : Int) < (m : Int) := by omega
                    obtain ⟨m1, hm1⟩ : ∃ m1, m1 = m - 1 := ⟨_, rfl⟩
                    have hm1i : (m : Int) - 1 = (m1 : Int) := by omega
                    have hm64b : m ≤ 64 := HM64.out
                    have HM1 : Hid (m1 ≤ pp.length) := hide (by rw [HPL.out]; omega)
                    obtain ⟨qq, hqq⟩ : ∃ qq, qq = pp.take m1 := ⟨_, rfl⟩
                    have HQQ : Hid (pp.take m1 = qq) := hide hqq.symm
                    have hq2 : (hexOf x).take m1 = qq := by rw [hqq, ← HPP.out, List.take_take, Nat.min_eq_left (by omega)]
                    have HFt := hide (findT (HSW.out _ HBd.out) x m1 HKL.out (by omega) HKU.out (by rw [← HNU.out]; exact HNul.out) (by rw [hm1]; exact HD2.out hm5))
                    rw [hq2] at HFt
                    clear hm1 hqq hq2 hm5
                    go_upto_region 34 with (first | ((with_reducible refine wpList_cutA (.tmp 273) (.tmp 276) pp m1 HM1.out ?_ ?_ ?_ ?_ qq HQQ.out ?_); rfl; rfl; rfl; rfl) | (go_at_call 25; (with_reducible refine HFt.out.mono ?_); rintro e w7x ⟨kq, rfl, hkq, hb7⟩; have HB7 := hide hb7; clear hb7))
                    have HBn := hide (HBd.out.trans (HB7.out.mono HBd.out.size))
                    have HKn := hide (HKd.out.below HB7.out)
                    clear HB7 HBd HKd hm5i hm1i hm64b hpl
                    have HNx := hide (nextA (HSW.out _ HBn.out) x false HKL.out)
                    have HRn := hide (HRX.out _ HBn.out)
                    have HKS : Hid ((x.map u8c).toArray.size = 32) := hide (by simp [HKL.out])
                    go_wp2_with (first | ((with_reducible refine wpList_load_keyAt (.tmp 287) g (o + i * 32) x HKL.out HRn.out ?_ ?_ ?_ ?_); rfl; rfl; rfl) | (go_at_call 23; (with_reducible refine HNx.out.mono ?_); rintro e w8x ⟨k2, ok2, rfl, hk2, hL2, hb8⟩; have HK2 := hide hk2; have HL8 := hide hL2; have HB8 := hide hb8; have HK8 := hide (HKn.out.below hb8).1; have HUS : Hid ((k2.map u8c).toArray.size = 32) := hide (by simp [hk2]); have HU1 := hide (all_oneCell_toArray (u8c_one k2)); clear hk2 hL2 hb8) | ((with_reducible refine wpList_store_blk ?_ 24 (.tmp 13) (.tmp 290) ?_ za 32 (x.map u8c).toArray (k2.map u8c).toArray 24 HUS.out HKS.out ?_ ?_ HK8.out infoKey HU1.out ?_); rfl; rfl; rfl; rfl; intro w9x hk9 hg9; have HK9 := hide hk9; have HG9 := hide hg9; clear hk9 hg9))
                    have hlt8 := HK8.out.lt
                    have hb89 := HBn.out.trans (HB8.out.mono HBn.out.size)
                    rw [← HZA.out] at hb89
                    exact ⟨⟨i + 1, ok2, k2, by go_num, by omega, rfl, ⟨HK9.out, HK2.out⟩, atP_next HX1.out HX2.out HFT.out HL8.out, hb89.trans (below_grownBy HG9.out (Nat.le_refl _) (Nat.le_of_lt hlt8))⟩, by simp [intOf]; omega⟩
                  · have hm5i : ¬ (4 : Int) < (m : Int) := by omega
                    clear hm5
                    go_upto_region 34 with fail
                    have HBn := HBd
                    have HKn := HKd
                    clear HBd HKd hpl
                    have HNx := hide (nextA (HSW.out _ HBn.out) x false HKL.out)
                    have HRn := hide (HRX.out _ HBn.out)
                    have HKS : Hid ((x.map u8c).toArray.size = 32) := hide (by simp [HKL.out])
                    go_wp2_with (first | ((with_reducible refine wpList_load_keyAt (.tmp 287) g (o + i * 32) x HKL.out HRn.out ?_ ?_ ?_ ?_); rfl; rfl; rfl) | (go_at_call 23; (with_reducible refine HNx.out.mono ?_); rintro e w8x ⟨k2, ok2, rfl, hk2, hL2, hb8⟩; have HK2 := hide hk2; have HL8 := hide hL2; have HB8 := hide hb8; have HK8 := hide (HKn.out.below hb8).1; have HUS : Hid ((k2.map u8c).toArray.size = 32) := hide (by simp [hk2]); have HU1 := hide (all_oneCell_toArray (u8c_one k2)); clear hk2 hL2 hb8) | ((with_reducible refine wpList_store_blk ?_ 24 (.tmp 13) (.tmp 290) ?_ za 32 (x.map u8c).toArray (k2.map u8c).toArray 24 HUS.out HKS.out ?_ ?_ HK8.out infoKey HU1.out ?_); rfl; rfl; rfl; rfl; intro w9x hk9 hg9; have HK9 := hide hk9; have HG9 := hide hg9; clear hk9 hg9))
                    have hlt8 := HK8.out.lt
                    have hb89 := HBn.out.trans (HB8.out.mono HBn.out.size)
                    rw [← HZA.out] at hb89
                    exact ⟨⟨i + 1, ok2, k2, by go_num, by omega, rfl, ⟨HK9.out, HK2.out⟩, atP_next HX1.out HX2.out HFT.out HL8.out, hb89.trans (below_grownBy HG9.out (Nat.le_refl _) (Nat.le_of_lt hlt8))⟩, by simp [intOf]; omega⟩
              · have hji3 : ¬ (i : Int) < (nu : Int) := by omega
                have hokf : ok = false := hAP.2 (by rw [List.length_map, HXL.out]; omega)
                subst hokf
                have HWK := hide (works_any wr)
                have HBE : Hid (Below w.heap.size w wr) := hide ((HS9.out.below hbw).bel)
                clear hKA hAP hBl hbw
                go_wp2_with (go_at_call 9; (with_reducible refine HWK.out.mono ?_); rintro e w' ⟨rfl, hb⟩)
                go_ret
                exact ⟨rfl, HBE.out.trans (hb.mono HBE.out.size)⟩
end Go.Proofs.Ytjmjnecobaoofaa
