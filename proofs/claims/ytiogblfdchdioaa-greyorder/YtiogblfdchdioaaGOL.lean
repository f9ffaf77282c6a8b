/- GreyOrder: the law walked. -/
import Derived.Test.YtiogblfdchdioaaGWK
namespace Go.Proofs.Ytiogblfdchdioaa
set_option linter.unusedVariables false
set_option linter.unusedSimpArgs false
open Go.RowKit
set_option maxRecDepth 100000

abbrev MM : Nat := 17592186043904
/-- A list of ints that came in. -/
def RdL (w : World) (ao : Option Addr) (L : List Int) : Prop := ∀ i x, L[i]? = some x → ∃ b o, ao = some ⟨b, o, none⟩ ∧ w.cell? ⟨b, o + i, none⟩ = some (.int .i64 x)
theorem RdL.below {w w' : World} {ao : Option Addr} {L : List Int} (h : RdL w ao L) (hb : Below w.heap.size w w') : RdL w' ao L := fun i x hx => by
  obtain ⟨b, o, h1, h2⟩ := h i x hx
  exact ⟨b, o, h1, (hb.cell (World.block_lt_of_cell? w _ h2)).trans h2⟩
/-- Between two calls. -/
structure OrS (w W : World) (z : Nat) (V : List Int) : Prop where
  ex : ∃ g, RI.RgAt W z g RI.DT MM V ∧ w.heap.size ≤ g
  lz : w.heap.size ≤ z
  bel : Below w.heap.size w W
theorem OrS.of {w W W' : World} {z g : Nat} {V : List Int} (hz : w.heap.size ≤ z) (hg : w.heap.size ≤ g) (hb : Below w.heap.size w W) (k : RI.RgS W W' z g RI.DT MM V) : OrS w W' z V := by
  obtain ⟨⟨g', h1, h2⟩, h3⟩ := k
  have s := hb.size
  refine ⟨⟨g', h1, ?_⟩, hz, hb.trans (h3.below s (fun k e => ?_))⟩
  · rcases h2 with e | e
    · rw [e]; exact hg
    · omega
  · rcases e with e | e
    · omega
    · omega
theorem OrS.drewN {w W : World} {z : Nat} {V : List Int} (h : OrS w W z V) (n : Nat) : OrS w (W.drewN n) z V := by
  obtain ⟨⟨g, h1, h2⟩, h3, h4⟩ := h
  exact ⟨⟨g, h1.drewN n, h2⟩, h3, ⟨h4.os, h4.tape, h4.output, h4.size, h4.block⟩⟩
theorem ge_of {a g g' s : Nat} (h : g' = g ∨ s ≤ g') (hg : a ≤ g) (hs : a ≤ s) : a ≤ g' := by rcases h with e | e <;> omega
/-- What was put on at one end, one behind the other. -/
def fillV (bot : Bool) (l : List Int) : List Int := if bot then l.reverse else l
theorem fillV_len (bot : Bool) (l : List Int) : (fillV bot l).length = l.length := by cases bot <;> simp [fillV]
theorem fillV_next (bot : Bool) (L : List Int) (i : Nat) (x : Int) (hx : L[i]? = some x) : fillV bot (L.take (i + 1)) = RI.addV bot x (fillV bot (L.take i)) := by
  have hl := (List.getElem?_eq_some_iff.1 hx).1
  have he := (List.getElem?_eq_some_iff.1 hx).2
  have e : L.take (i + 1) = L.take i ++ [x] := by rw [List.take_succ_eq_append_getElem hl, he]
  rw [e]
  cases bot
  · rfl
  · simp [fillV, RI.addV]
theorem fillV_at (bot : Bool) (L : List Int) (k : Nat) (hk : k < L.length) : (fillV bot L)[k]? = L[if bot then L.length - 1 - k else k]? := by
  cases bot
  · rfl
  · show L.reverse[k]? = L[L.length - 1 - k]?
    rw [List.getElem?_reverse hk]
theorem turned_back (n : Int) (V : List Int) : RI.turned (-n) (RI.turned n V) = V := by
  unfold RI.turned
  rw [rots_len, Int.neg_tmod]
  generalize n.tmod (V.length : Int) = r
  rw [Int.natAbs_neg]
  by_cases h : 0 < r
  · rw [decide_eq_true h, decide_eq_false (by omega)]
    exact rots_back true r.natAbs V
  · by_cases h2 : r < 0
    · rw [decide_eq_false h, decide_eq_true (by omega)]
      exact rots_back false r.natAbs V
    · obtain rfl : r = 0 := by omega
      rfl
theorem take_top (U : List Int) (m : Nat) (x : Int) (hx : U[m]? = some x) : U.take (m + 1) = U.take m ++ [x] := by
  have hl := (List.getElem?_eq_some_iff.1 hx).1
  rw [List.take_succ_eq_append_getElem hl, (List.getElem?_eq_some_iff.1 hx).2]
theorem drop_bot (U : List Int) (m j : Nat) (x : Int) (hj : j < m) (hx : U[j]? = some x) : (U.take m).drop j = x :: (U.take m).drop (j + 1) := by
  have hl := (List.getElem?_eq_some_iff.1 hx).1
  rw [List.drop_eq_getElem_cons (by rw [List.length_take]; omega), List.getElem_take, (List.getElem?_eq_some_iff.1 hx).2]
set_option maxHeartbeats 4000000 in
theorem order_false (w : World) (ao : Option Addr) (cap : Nat) (L : List Int) (hL : RdL w ao L) (hn : L.length ≤ 17592186043904) (turn : Int) (ht : -9223372036854775808 ≤ turn) (ht2 : turn ≤ 9223372036854775807) : Calls Try.prog 4 #[.slice ao L.length cap, .int .i64 turn, .bool false] w fun e w' => e = .returned (.bool true) ∧ Below w.heap.size w w' := by
  obtain ⟨n, hnl⟩ : ∃ n, n = L.length := ⟨_, rfl⟩
  have HNL := hide hnl
  rw [← hnl] at hn ⊢
  have HL := hide hL
  have HM : Hid (RI.EB * (2 * MM + 1) ≤ 281474976710656) := hide (by decide)
  have HD := hide (RI.newDeque_any (M := MM) w (.slice none 0 0) [] ⟨none, 0, rfl, fun h => absurd h (by decide)⟩ (by decide) (by decide))
  have hnil : ∀ (z : Nat) W, (binOp .eql 39 (.pointer (some ⟨z, 0, none⟩)) (.pointer none)).run Try.prog W = .ok (.bool false) W := fun z W => by kernel_rfl
  clear hnl hL
  go_enter Try.func4, Try.ntmps4
  go_upto_region 5 with (go_at_call 10; (with_reducible refine HD.out.mono ?_); rintro e w1 ⟨z, g, rfl, h1, h2, h3, h4⟩; have H1 : Hid (OrS w w1 z (fillV false (L.take 0))) := hide ⟨⟨g, h1, h3⟩, h2, h4⟩; clear h1 h2 h3 h4)
  clear HD hnil
  go_loopw [8] (fun t wr => ∃ i : Nat, t = .int .i64 i ∧ i ≤ n ∧ OrS w wr z (fillV false (L.take i))) (fun t _ => n - (intOf t).toNat)
  case atStart => exact ⟨0, rfl, Nat.zero_le _, H1.out⟩
  case round =>
    clear H1
    obtain ⟨i, rfl, hi, hS⟩ := hrel
    by_cases hlt : i < n
    · have hii : (i : Int) < (n : Int) := by omega
      obtain ⟨x, hx⟩ : ∃ x, L[i]? = some x := ⟨_, List.getElem?_eq_getElem (by rw [← HNL.out]; exact hlt)⟩
      obtain ⟨⟨g, hR, hg⟩, hz, hb⟩ := hS
      obtain ⟨b, o, rfl, hc⟩ := (HL.out.below hb) i x hx
      have hbl := World.block_lt_of_cell? wr _ hc
      have hlen : (fillV false (L.take i)).length ≤ MM := by rw [fillV_len, List.length_take]; show _ ≤ 17592186043904; omega
      have hP := RI.pushTop_any hR hlen HM.out x
      simp only [RI.elV] at hP
      have HP := hide hP
      have HX := hide hx
      have HZ := hide hz
      have HG := hide hg
      have HB := hide hb
      clear hR hlen hP hx hz hg hb
      go_wp2_with (go_at_call 12; (with_reducible refine HP.out.mono ?_); rintro e w2 ⟨rfl, h1⟩; have H2 := hide (OrS.of HZ.out HG.out HB.out h1); clear h1)
      go_roundw
      case rel =>
        refine ⟨i + 1, by go_num, by omega, ?_⟩
        rw [fillV_next false L i x HX.out]
        exact H2.out
      case measure => simp [intOf]; omega
    · have hii : ¬ (i : Int) < (n : Int) := by omega
      obtain rfl : n = i := by omega
      obtain ⟨U, hU⟩ : ∃ U, U = fillV false L := ⟨_, rfl⟩
      have HS : Hid (OrS w wr z U) := hide (by rw [hU]; rw [HNL.out, List.take_length] at hS; exact hS)
      have HU := hide hU
      have HUL : Hid (U.length = n) := hide (by rw [hU, fillV_len, HNL.out])
      clear hS hU hi
      go_upto_region 10 with fail
      refine name_world (fun W => OrS w W z U) HS.out ?_
      rintro W hS
      clear HS
      have HS := hide hS
      clear hS
      by_cases htm : turn = -9223372036854775808
      · subst htm
        go_upto_region 13 with fail
        obtain ⟨⟨g, hR, hg⟩, hz, hb⟩ := HS.out
        have hLN := RI.len_any hR
        rw [HUL.out] at hLN
        have HLN := hide hLN
        clear hR hg hz hb hLN
        obtain ⟨h, hh⟩ : ∃ h : Nat, h = n / 2 := ⟨_, rfl⟩
        have hq : (n : Int).tdiv 2 = (h : Int) := by rw [hh]; exact (Int.ofNat_tdiv n 2).symm
        have hh2 : 2 * h ≤ n := by omega
        have hh3 : h ≤ n := by omega
        clear hh
        go_upto_region 17 with (go_at_call 14; (with_reducible refine HLN.out.mono ?_); rintro e w' ⟨rfl, hw⟩; rw [hw]; clear hw)
        clear HLN
        go_loopw [10] (fun t wr => ∃ i : Nat, t = .int .i64 i ∧ i ≤ h ∧ OrS w wr z (U.take (n - i))) (fun t _ => h - (intOf t).toNat)
        case atStart => exact ⟨0, rfl, Nat.zero_le _, by rw [Nat.sub_zero, ← HUL.out, List.take_length]; exact HS.out⟩
        case round =>
          clear HS
          obtain ⟨i, rfl, hi, hS⟩ := hrel
          by_cases hlt : i < h
          · have hii : (i : Int) < (h : Int) := by omega
            obtain ⟨k, hk⟩ : ∃ k, k = n - 1 - i := ⟨_, rfl⟩
            have hki : (n : Int) - 1 - (i : Int) = (k : Int) := by omega
            have hkn : (k : Int) < (n : Int) := by omega
            have hin : (i : Int) < (n : Int) := by omega
            have hkk : k + 1 = n - i := by omega
            obtain ⟨x, hux⟩ : ∃ x, U[k]? = some x := ⟨_, List.getElem?_eq_getElem (by rw [HUL.out]; omega)⟩
            have hV : U.take (n - i) = U.take k ++ [x] := by rw [← hkk]; exact take_top U k x hux
            rw [hV] at hS
            have HSB := hide hS
            have hx : L[k]? = some x := by
              rw [HU.out, fillV_at false L k (by rw [← HNL.out]; omega)] at hux
              exact hux
            obtain ⟨b, o, rfl, hc⟩ := (HL.out.below HSB.out.bel) k x hx
            have hbl := World.block_lt_of_cell? wr _ hc
            obtain ⟨⟨g, hR, hg⟩, hz, hb⟩ := hS
            have hP := RI.popTop_any x hR (by decide)
            have HP := hide hP
            have HZ := hide hz
            have HG := hide hg
            have HB := hide hb
            have HK : Hid (k = n - (i + 1)) := hide (by omega)
            have HCS : Hid (∀ w2, OrS w w2 z (U.take k) → w2.cell? ⟨b, o + k, none⟩ = some (.int .i64 x)) := hide (fun w2 q => by
              obtain ⟨b2, o2, e1, e2⟩ := (HL.out.below q.bel) k x hx
              cases e1
              exact e2)
            clear hR hP hz hg hb hk hkk hux hV hx hc HSB
            go_wp2_with (go_at_call 15; (with_reducible refine HP.out.mono ?_); rintro e w2 ⟨rfl, h1⟩; have H2 := hide (OrS.of HZ.out HG.out HB.out h1); clear h1; simp only [RI.elV]; have hcs := HCS.out w2 H2.out; have hb2 := World.block_lt_of_cell? w2 _ hcs)
            go_roundw
            case rel =>
              refine ⟨i + 1, by go_num, by omega, ?_⟩
              rw [← HK.out]
              exact H2.out
            case measure => simp [intOf]; omega
          · have hii : ¬ (i : Int) < (h : Int) := by omega
            obtain rfl : h = i := by omega
            have HS : Hid (OrS w wr z ((U.take (n - h)).drop (h - h))) := hide (by rw [Nat.sub_self]; exact hS)
            clear hS
            go_upto_region 26 with fail
            go_loopw [14] (fun t wr => ∃ i : Nat, t = .int .i64 i ∧ i ≤ n ∧ h ≤ i ∧ OrS w wr z ((U.take (n - h)).drop (i - h))) (fun t _ => n - (intOf t).toNat)
            case atStart => exact ⟨h, rfl, hh3, Nat.le_refl _, HS.out⟩
            case round =>
              clear HS hii hi hlt
              obtain ⟨i, rfl, hi, hhi, hS⟩ := hrel
              by_cases hlt : i < n
              · have hii : (i : Int) < (n : Int) := by omega
                obtain ⟨k, hk⟩ : ∃ k, k = i - h := ⟨_, rfl⟩
                have hki : (i : Int) - (h : Int) = (k : Int) := by omega
                have hkn : (k : Int) < (n : Int) := by omega
                have hj : i - h < n - h := by omega
                obtain ⟨x, hux⟩ : ∃ x, U[i - h]? = some x := ⟨_, List.getElem?_eq_getElem (by rw [HUL.out]; omega)⟩
                have hV := drop_bot U (n - h) (i - h) x hj hux
                rw [hV] at hS
                have HSB := hide hS
                have hx : L[k]? = some x := by
                  rw [HU.out, fillV_at false L (i - h) (by rw [← HNL.out]; omega)] at hux
                  rw [hk]
                  exact hux
                obtain ⟨b, o, rfl, hc⟩ := (HL.out.below HSB.out.bel) k x hx
                have hbl := World.block_lt_of_cell? wr _ hc
                obtain ⟨⟨g, hR, hg⟩, hz, hb⟩ := hS
                have hP := RI.popBottom_any x hR (by decide)
                have HP := hide hP
                have HZ := hide hz
                have HG := hide hg
                have HB := hide hb
                have HK : Hid (i - h + 1 = i + 1 - h) := hide (by omega)
                have HCS : Hid (∀ w2, OrS w w2 z ((U.take (n - h)).drop (i - h + 1)) → w2.cell? ⟨b, o + k, none⟩ = some (.int .i64 x)) := hide (fun w2 q => by
                  obtain ⟨b2, o2, e1, e2⟩ := (HL.out.below q.bel) k x hx
                  cases e1
                  exact e2)
                clear hR hP hz hg hb hk hux hV hx hc hj HSB
                go_wp2_with (go_at_call 16; (with_reducible refine HP.out.mono ?_); rintro e w2 ⟨rfl, h1⟩; have H2 := hide (OrS.of HZ.out HG.out HB.out h1); clear h1; simp only [RI.elV]; have hcs := HCS.out w2 H2.out; have hb2 := World.block_lt_of_cell? w2 _ hcs)
                go_roundw
                case rel =>
                  refine ⟨i + 1, by go_num, by omega, by omega, ?_⟩
                  rw [← HK.out]
                  exact H2.out
                case measure => simp [intOf]; omega
              · have hii : ¬ (i : Int) < (n : Int) := by omega
                obtain rfl : n = i := by omega
                have hV : (U.take (n - h)).drop (n - h) = [] := List.drop_eq_nil_of_le (by rw [List.length_take]; omega)
                rw [hV] at hS
                obtain ⟨⟨g, hR, hg⟩, hz, hb⟩ := hS
                have hP := RI.popTop_none hR
                have HP := hide hP
                have HW := hide (works_any wr)
                have HB := hide hb
                clear hR hP hz hg hb hV
                go_wp2_with (first | (go_at_call 15; (with_reducible refine HP.out.mono ?_); rintro e w' ⟨rfl, hw⟩; rw [hw]; clear hw; simp only [RI.elV]) | (go_at_call 6; (with_reducible refine HW.out.mono ?_); rintro e w9 ⟨rfl, h9⟩; have H9 := hide h9; clear h9))
                go_ret
                exact ⟨rfl, HB.out.trans (H9.out.mono HB.out.size)⟩
      · obtain ⟨⟨g, hR, hg⟩, hz, hb⟩ := HS.out
        have hlen : U.length ≤ MM := by rw [HUL.out]; exact hn
        have HT := hide (RI.turn_any hR hlen HM.out turn)
        have HT2 : Hid (∀ W' g', RI.RgAt W' z g' RI.DT MM (RI.turned turn U) → Calls Try.prog 13 #[.pointer (some ⟨z, 0, none⟩), .int .i64 (-turn)] W' (RI.PushC W' z g' RI.DT MM U)) := hide (fun W' g' q => by
          have := RI.turn_any q (by unfold RI.turned; rw [rots_len]; exact hlen) HM.out (-turn)
          rw [turned_back] at this
          exact this)
        have HZ := hide hz
        have HG := hide hg
        have HB := hide hb
        clear hR hlen hz hg hb HS
        go_upto_region 13 with (first | (go_at_call 13; (with_reducible refine HT.out.mono ?_); rintro e w2 ⟨rfl, h1⟩; have H2 := hide (OrS.of HZ.out HG.out HB.out h1); have HX := hide h1.ex; clear h1; obtain ⟨g2, hx1, hx2⟩ := HX.out; have HT3 := hide (HT2.out w2 g2 hx1); have HG2 := hide (ge_of hx2 HG.out HB.out.size); clear hx1 hx2) | (go_at_call 13; (with_reducible refine HT3.out.mono ?_); rintro e w3 ⟨rfl, h1⟩; have H3 := hide h1; clear h1))
        refine name_world (fun W => OrS w W z U) (OrS.of HZ.out HG2.out H2.out.bel H3.out) ?_
        rintro W hS
        have HS := hide hS
        clear hS HT HT2 HT3 HX H2 H3 HG HZ HB HG2
        obtain ⟨⟨g, hR, hg⟩, hz, hb⟩ := HS.out
        have hLN := RI.len_any hR
        rw [HUL.out] at hLN
        have HLN := hide hLN
        clear hR hg hz hb hLN
        obtain ⟨h, hh⟩ : ∃ h : Nat, h = n / 2 := ⟨_, rfl⟩
        have hq : (n : Int).tdiv 2 = (h : Int) := by rw [hh]; exact (Int.ofNat_tdiv n 2).symm
        have hh2 : 2 * h ≤ n := by omega
        have hh3 : h ≤ n := by omega
        clear hh
        go_upto_region 17 with (go_at_call 14; (with_reducible refine HLN.out.mono ?_); rintro e w' ⟨rfl, hw⟩; rw [hw]; clear hw)
        clear HLN
        go_loopw [10] (fun t wr => ∃ i : Nat, t = .int .i64 i ∧ i ≤ h ∧ OrS w wr z (U.take (n - i))) (fun t _ => h - (intOf t).toNat)
        case atStart => exact ⟨0, rfl, Nat.zero_le _, by rw [Nat.sub_zero, ← HUL.out, List.take_length]; exact HS.out⟩
        case round =>
          clear HS
          obtain ⟨i, rfl, hi, hS⟩ := hrel
          by_cases hlt : i < h
          · have hii : (i : Int) < (h : Int) := by omega
            obtain ⟨k, hk⟩ : ∃ k, k = n - 1 - i := ⟨_, rfl⟩
            have hki : (n : Int) - 1 - (i : Int) = (k : Int) := by omega
            have hkn : (k : Int) < (n : Int) := by omega
            have hin : (i : Int) < (n : Int) := by omega
            have hkk : k + 1 = n - i := by omega
            obtain ⟨x, hux⟩ : ∃ x, U[k]? = some x := ⟨_, List.getElem?_eq_getElem (by rw [HUL.out]; omega)⟩
            have hV : U.take (n - i) = U.take k ++ [x] := by rw [← hkk]; exact take_top U k x hux
            rw [hV] at hS
            have HSB := hide hS
            have hx : L[k]? = some x := by
              rw [HU.out, fillV_at false L k (by rw [← HNL.out]; omega)] at hux
              exact hux
            obtain ⟨b, o, rfl, hc⟩ := (HL.out.below HSB.out.bel) k x hx
            have hbl := World.block_lt_of_cell? wr _ hc
            obtain ⟨⟨g, hR, hg⟩, hz, hb⟩ := hS
            have hP := RI.popTop_any x hR (by decide)
            have HP := hide hP
            have HZ := hide hz
            have HG := hide hg
            have HB := hide hb
            have HK : Hid (k = n - (i + 1)) := hide (by omega)
            have HCS : Hid (∀ w2, OrS w w2 z (U.take k) → w2.cell? ⟨b, o + k, none⟩ = some (.int .i64 x)) := hide (fun w2 q => by
              obtain ⟨b2, o2, e1, e2⟩ := (HL.out.below q.bel) k x hx
              cases e1
              exact e2)
            clear hR hP hz hg hb hk hkk hux hV hx hc HSB
            go_wp2_with (go_at_call 15; (with_reducible refine HP.out.mono ?_); rintro e w2 ⟨rfl, h1⟩; have H2 := hide (OrS.of HZ.out HG.out HB.out h1); clear h1; simp only [RI.elV]; have hcs := HCS.out w2 H2.out; have hb2 := World.block_lt_of_cell? w2 _ hcs)
            go_roundw
            case rel =>
              refine ⟨i + 1, by go_num, by omega, ?_⟩
              rw [← HK.out]
              exact H2.out
            case measure => simp [intOf]; omega
          · have hii : ¬ (i : Int) < (h : Int) := by omega
            obtain rfl : h = i := by omega
            have HS : Hid (OrS w wr z ((U.take (n - h)).drop (h - h))) := hide (by rw [Nat.sub_self]; exact hS)
            clear hS
            go_upto_region 26 with fail
            go_loopw [14] (fun t wr => ∃ i : Nat, t = .int .i64 i ∧ i ≤ n ∧ h ≤ i ∧ OrS w wr z ((U.take (n - h)).drop (i - h))) (fun t _ => n - (intOf t).toNat)
            case atStart => exact ⟨h, rfl, hh3, Nat.le_refl _, HS.out⟩
            case round =>
              clear HS hii hi hlt
              obtain ⟨i, rfl, hi, hhi, hS⟩ := hrel
              by_cases hlt : i < n
              · have hii : (i : Int) < (n : Int) := by omega
                obtain ⟨k, hk⟩ : ∃ k, k = i - h := ⟨_, rfl⟩
                have hki : (i : Int) - (h : Int) = (k : Int) := by omega
                have hkn : (k : Int) < (n : Int) := by omega
                have hj : i - h < n - h := by omega
                obtain ⟨x, hux⟩ : ∃ x, U[i - h]? = some x := ⟨_, List.getElem?_eq_getElem (by rw [HUL.out]; omega)⟩
                have hV := drop_bot U (n - h) (i - h) x hj hux
                rw [hV] at hS
                have HSB := hide hS
                have hx : L[k]? = some x := by
                  rw [HU.out, fillV_at false L (i - h) (by rw [← HNL.out]; omega)] at hux
                  rw [hk]
                  exact hux
                obtain ⟨b, o, rfl, hc⟩ := (HL.out.below HSB.out.bel) k x hx
                have hbl := World.block_lt_of_cell? wr _ hc
                obtain ⟨⟨g, hR, hg⟩, hz, hb⟩ := hS
                have hP := RI.popBottom_any x hR (by decide)
                have HP := hide hP
                have HZ := hide hz
                have HG := hide hg
                have HB := hide hb
                have HK : Hid (i - h + 1 = i + 1 - h) := hide (by omega)
                have HCS : Hid (∀ w2, OrS w w2 z ((U.take (n - h)).drop (i - h + 1)) → w2.cell? ⟨b, o + k, none⟩ = some (.int .i64 x)) := hide (fun w2 q => by
                  obtain ⟨b2, o2, e1, e2⟩ := (HL.out.below q.bel) k x hx
                  cases e1
                  exact e2)
                clear hR hP hz hg hb hk hux hV hx hc hj HSB
                go_wp2_with (go_at_call 16; (with_reducible refine HP.out.mono ?_); rintro e w2 ⟨rfl, h1⟩; have H2 := hide (OrS.of HZ.out HG.out HB.out h1); clear h1; simp only [RI.elV]; have hcs := HCS.out w2 H2.out; have hb2 := World.block_lt_of_cell? w2 _ hcs)
                go_roundw
                case rel =>
                  refine ⟨i + 1, by go_num, by omega, by omega, ?_⟩
                  rw [← HK.out]
                  exact H2.out
                case measure => simp [intOf]; omega
              · have hii : ¬ (i : Int) < (n : Int) := by omega
                obtain rfl : n = i := by omega
                have hV : (U.take (n - h)).drop (n - h) = [] := List.drop_eq_nil_of_le (by rw [List.length_take]; omega)
                rw [hV] at hS
                obtain ⟨⟨g, hR, hg⟩, hz, hb⟩ := hS
                have hP := RI.popTop_none hR
                have HP := hide hP
                have HW := hide (works_any wr)
                have HB := hide hb
                clear hR hP hz hg hb hV
                go_wp2_with (first | (go_at_call 15; (with_reducible refine HP.out.mono ?_); rintro e w' ⟨rfl, hw⟩; rw [hw]; clear hw; simp only [RI.elV]) | (go_at_call 6; (with_reducible refine HW.out.mono ?_); rintro e w9 ⟨rfl, h9⟩; have H9 := hide h9; clear h9))
                go_ret
                exact ⟨rfl, HB.out.trans (H9.out.mono HB.out.size)⟩

set_option maxHeartbeats 4000000 in
theorem order_true (w : World) (ao : Option Addr) (cap : Nat) (L : List Int) (hL : RdL w ao L) (hn : L.length ≤ 17592186043904) (turn : Int) (ht : -9223372036854775808 ≤ turn) (ht2 : turn ≤ 9223372036854775807) : Calls Try.prog 4 #[.slice ao L.length cap, .int .i64 turn, .bool true] w fun e w' => e = .returned (.bool true) ∧ Below w.heap.size w w' := by
  obtain ⟨n, hnl⟩ : ∃ n, n = L.length := ⟨_, rfl⟩
  have HNL := hide hnl
  rw [← hnl] at hn ⊢
  have HL := hide hL
  have HM : Hid (RI.EB * (2 * MM + 1) ≤ 281474976710656) := hide (by decide)
  have HD := hide (RI.newDeque_any (M := MM) w (.slice none 0 0) [] ⟨none, 0, rfl, fun h => absurd h (by decide)⟩ (by decide) (by decide))
  have hnil : ∀ (z : Nat) W, (binOp .eql 39 (.pointer (some ⟨z, 0, none⟩)) (.pointer none)).run Try.prog W = .ok (.bool false) W := fun z W => by kernel_rfl
  clear hnl hL
  go_enter Try.func4, Try.ntmps4
  go_upto_region 5 with (go_at_call 10; (with_reducible refine HD.out.mono ?_); rintro e w1 ⟨z, g, rfl, h1, h2, h3, h4⟩; have H1 : Hid (OrS w w1 z (fillV true (L.take 0))) := hide ⟨⟨g, h1, h3⟩, h2, h4⟩; clear h1 h2 h3 h4)
  clear HD hnil
  go_loopw [8] (fun t wr => ∃ i : Nat, t = .int .i64 i ∧ i ≤ n ∧ OrS w wr z (fillV true (L.take i))) (fun t _ => n - (intOf t).toNat)
  case atStart => exact ⟨0, rfl, Nat.zero_le _, H1.out⟩
  case round =>
    clear H1
    obtain ⟨i, rfl, hi, hS⟩ := hrel
    by_cases hlt : i < n
    · have hii : (i : Int) < (n : Int) := by omega
      obtain ⟨x, hx⟩ : ∃ x, L[i]? = some x := ⟨_, List.getElem?_eq_getElem (by rw [← HNL.out]; exact hlt)⟩
      obtain ⟨⟨g, hR, hg⟩, hz, hb⟩ := hS
      obtain ⟨b, o, rfl, hc⟩ := (HL.out.below hb) i x hx
      have hbl := World.block_lt_of_cell? wr _ hc
      have hlen : (fillV true (L.take i)).length ≤ MM := by rw [fillV_len, List.length_take]; show _ ≤ 17592186043904; omega
      have hP := RI.pushBottom_any hR hlen HM.out x
      simp only [RI.elV] at hP
      have HP := hide hP
      have HX := hide hx
      have HZ := hide hz
      have HG := hide hg
      have HB := hide hb
      clear hR hlen hP hx hz hg hb
      go_wp2_with (go_at_call 11; (with_reducible refine HP.out.mono ?_); rintro e w2 ⟨rfl, h1⟩; have H2 := hide (OrS.of HZ.out HG.out HB.out h1); clear h1)
      go_roundw
      case rel =>
        refine ⟨i + 1, by go_num, by omega, ?_⟩
        rw [fillV_next true L i x HX.out]
        exact H2.out
      case measure => simp [intOf]; omega
    · have hii : ¬ (i : Int) < (n : Int) := by omega
      obtain rfl : n = i := by omega
      obtain ⟨U, hU⟩ : ∃ U, U = fillV true L := ⟨_, rfl⟩
      have HS : Hid (OrS w wr z U) := hide (by rw [hU]; rw [HNL.out, List.take_length] at hS; exact hS)
      have HU := hide hU
      have HUL : Hid (U.length = n) := hide (by rw [hU, fillV_len, HNL.out])
      clear hS hU hi
      go_upto_region 10 with fail
      refine name_world (fun W => OrS w W z U) HS.out ?_
      rintro W hS
      clear HS
      have HS := hide hS
      clear hS
      by_cases htm : turn = -9223372036854775808
      · subst htm
        go_upto_region 13 with fail
        obtain ⟨⟨g, hR, hg⟩, hz, hb⟩ := HS.out
        have hLN := RI.len_any hR
        rw [HUL.out] at hLN
        have HLN := hide hLN
        clear hR hg hz hb hLN
        obtain ⟨h, hh⟩ : ∃ h : Nat, h = n / 2 := ⟨_, rfl⟩
        have hq : (n : Int).tdiv 2 = (h : Int) := by rw [hh]; exact (Int.ofNat_tdiv n 2).symm
        have hh2 : 2 * h ≤ n := by omega
        have hh3 : h ≤ n := by omega
        clear hh
        go_upto_region 17 with (go_at_call 14; (with_reducible refine HLN.out.mono ?_); rintro e w' ⟨rfl, hw⟩; rw [hw]; clear hw)
        clear HLN
        go_loopw [10] (fun t wr => ∃ i : Nat, t = .int .i64 i ∧ i ≤ h ∧ OrS w wr z (U.take (n - i))) (fun t _ => h - (intOf t).toNat)
        case atStart => exact ⟨0, rfl, Nat.zero_le _, by rw [Nat.sub_zero, ← HUL.out, List.take_length]; exact HS.out⟩
        case round =>
          clear HS
          obtain ⟨i, rfl, hi, hS⟩ := hrel
          by_cases hlt : i < h
          · have hii : (i : Int) < (h : Int) := by omega
            obtain ⟨k, hk⟩ : ∃ k, k = n - 1 - i := ⟨_, rfl⟩
            have hki : (n : Int) - 1 - (i : Int) = (k : Int) := by omega
            have hkn : (k : Int) < (n : Int) := by omega
            have hin : (i : Int) < (n : Int) := by omega
            have hkk : k + 1 = n - i := by omega
            obtain ⟨x, hux⟩ : ∃ x, U[k]? = some x := ⟨_, List.getElem?_eq_getElem (by rw [HUL.out]; omega)⟩
            have hV : U.take (n - i) = U.take k ++ [x] := by rw [← hkk]; exact take_top U k x hux
            rw [hV] at hS
            have HSB := hide hS
            obtain ⟨y, hy⟩ : ∃ y, L[k]? = some y := ⟨_, List.getElem?_eq_getElem (by rw [← HNL.out]; omega)⟩
            have hx : L[i]? = some x := by
              rw [HU.out, fillV_at true L k (by rw [← HNL.out]; omega), ← HNL.out] at hux
              rw [← hux]
              simp only [if_pos]
              congr 1; omega
            obtain ⟨b, o, rfl, hc⟩ := (HL.out.below HSB.out.bel) i x hx
            obtain ⟨b', o', he, hc2⟩ := (HL.out.below HSB.out.bel) k y hy
            cases he
            have HRD := hide (HL.out)
            have hbl := World.block_lt_of_cell? wr _ hc
            obtain ⟨⟨g, hR, hg⟩, hz, hb⟩ := hS
            have hP := RI.popTop_any x hR (by decide)
            have HP := hide hP
            have HZ := hide hz
            have HG := hide hg
            have HB := hide hb
            have HK : Hid (k = n - (i + 1)) := hide (by omega)
            have HCS : Hid (∀ w2, OrS w w2 z (U.take k) → w2.cell? ⟨b, o + k, none⟩ = some (.int .i64 y) ∧ w2.cell? ⟨b, o + i, none⟩ = some (.int .i64 x)) := hide (fun w2 q => by
              obtain ⟨b2, o2, e1, e2⟩ := (HL.out.below q.bel) k y hy
              cases e1
              obtain ⟨b3, o3, e3, e4⟩ := (HL.out.below q.bel) i x hx
              cases e3
              exact ⟨e2, e4⟩)
            clear hR hP hz hg hb hk hkk hux hV hx hc hy hc2 HSB HRD
            go_wp2_with (go_at_call 15; (with_reducible refine HP.out.mono ?_); rintro e w2 ⟨rfl, h1⟩; have H2 := hide (OrS.of HZ.out HG.out HB.out h1); clear h1; simp only [RI.elV]; have hcs := HCS.out w2 H2.out; obtain ⟨hcs, hct⟩ := hcs; have hb2 := World.block_lt_of_cell? w2 _ hcs)
            go_roundw
            case rel =>
              refine ⟨i + 1, by go_num, by omega, ?_⟩
              rw [← HK.out]
              exact H2.out
            case measure => simp [intOf]; omega
          · have hii : ¬ (i : Int) < (h : Int) := by omega
            obtain rfl : h = i := by omega
            have HS : Hid (OrS w wr z ((U.take (n - h)).drop (h - h))) := hide (by rw [Nat.sub_self]; exact hS)
            clear hS
            go_upto_region 26 with fail
            go_loopw [14] (fun t wr => ∃ i : Nat, t = .int .i64 i ∧ i ≤ n ∧ h ≤ i ∧ OrS w wr z ((U.take (n - h)).drop (i - h))) (fun t _ => n - (intOf t).toNat)
            case atStart => exact ⟨h, rfl, hh3, Nat.le_refl _, HS.out⟩
            case round =>
              clear HS hii hi hlt
              obtain ⟨i, rfl, hi, hhi, hS⟩ := hrel
              by_cases hlt : i < n
              · have hii : (i : Int) < (n : Int) := by omega
                obtain ⟨k, hk⟩ : ∃ k, k = n - 1 - (i - h) := ⟨_, rfl⟩
                have hki : (n : Int) - 1 - ((i : Int) - (h : Int)) = (k : Int) := by omega
                have hkn : (k : Int) < (n : Int) := by omega
                have hj : i - h < n - h := by omega
                obtain ⟨x, hux⟩ : ∃ x, U[i - h]? = some x := ⟨_, List.getElem?_eq_getElem (by rw [HUL.out]; omega)⟩
                have hV := drop_bot U (n - h) (i - h) x hj hux
                rw [hV] at hS
                have HSB := hide hS
                have hx : L[k]? = some x := by
                  rw [HU.out, fillV_at true L (i - h) (by rw [← HNL.out]; omega), ← HNL.out] at hux
                  rw [← hux]
                  simp only [if_pos]
                  congr 1
                obtain ⟨b, o, rfl, hc⟩ := (HL.out.below HSB.out.bel) k x hx
                have hbl := World.block_lt_of_cell? wr _ hc
                obtain ⟨⟨g, hR, hg⟩, hz, hb⟩ := hS
                have hP := RI.popBottom_any x hR (by decide)
                have HP := hide hP
                have HZ := hide hz
                have HG := hide hg
                have HB := hide hb
                have HK : Hid (i - h + 1 = i + 1 - h) := hide (by omega)
                have HCS : Hid (∀ w2, OrS w w2 z ((U.take (n - h)).drop (i - h + 1)) → w2.cell? ⟨b, o + k, none⟩ = some (.int .i64 x)) := hide (fun w2 q => by
                  obtain ⟨b2, o2, e1, e2⟩ := (HL.out.below q.bel) k x hx
                  cases e1
                  exact e2)
                clear hR hP hz hg hb hk hux hV hx hc hj HSB
                go_wp2_with (go_at_call 16; (with_reducible refine HP.out.mono ?_); rintro e w2 ⟨rfl, h1⟩; have H2 := hide (OrS.of HZ.out HG.out HB.out h1); clear h1; simp only [RI.elV]; have hcs := HCS.out w2 H2.out; have hb2 := World.block_lt_of_cell? w2 _ hcs)
                go_roundw
                case rel =>
                  refine ⟨i + 1, by go_num, by omega, by omega, ?_⟩
                  rw [← HK.out]
                  exact H2.out
                case measure => simp [intOf]; omega
              · have hii : ¬ (i : Int) < (n : Int) := by omega
                obtain rfl : n = i := by omega
                have hV : (U.take (n - h)).drop (n - h) = [] := List.drop_eq_nil_of_le (by rw [List.length_take]; omega)
                rw [hV] at hS
                obtain ⟨⟨g, hR, hg⟩, hz, hb⟩ := hS
                have hP := RI.popTop_none hR
                have HP := hide hP
                have HW := hide (works_any wr)
                have HB := hide hb
                clear hR hP hz hg hb hV
                go_wp2_with (first | (go_at_call 15; (with_reducible refine HP.out.mono ?_); rintro e w' ⟨rfl, hw⟩; rw [hw]; clear hw; simp only [RI.elV]) | (go_at_call 6; (with_reducible refine HW.out.mono ?_); rintro e w9 ⟨rfl, h9⟩; have H9 := hide h9; clear h9))
                go_ret
                exact ⟨rfl, HB.out.trans (H9.out.mono HB.out.size)⟩
      · obtain ⟨⟨g, hR, hg⟩, hz, hb⟩ := HS.out
        have hlen : U.length ≤ MM := by rw [HUL.out]; exact hn
        have HT := hide (RI.turn_any hR hlen HM.out turn)
        have HT2 : Hid (∀ W' g', RI.RgAt W' z g' RI.DT MM (RI.turned turn U) → Calls Try.prog 13 #[.pointer (some ⟨z, 0, none⟩), .int .i64 (-turn)] W' (RI.PushC W' z g' RI.DT MM U)) := hide (fun W' g' q => by
          have := RI.turn_any q (by unfold RI.turned; rw [rots_len]; exact hlen) HM.out (-turn)
          rw [turned_back] at this
          exact this)
        have HZ := hide hz
        have HG := hide hg
        have HB := hide hb
        clear hR hlen hz hg hb HS
        go_upto_region 13 with (first | (go_at_call 13; (with_reducible refine HT.out.mono ?_); rintro e w2 ⟨rfl, h1⟩; have H2 := hide (OrS.of HZ.out HG.out HB.out h1); have HX := hide h1.ex; clear h1; obtain ⟨g2, hx1, hx2⟩ := HX.out; have HT3 := hide (HT2.out w2 g2 hx1); have HG2 := hide (ge_of hx2 HG.out HB.out.size); clear hx1 hx2) | (go_at_call 13; (with_reducible refine HT3.out.mono ?_); rintro e w3 ⟨rfl, h1⟩; have H3 := hide h1; clear h1))
        refine name_world (fun W => OrS w W z U) (OrS.of HZ.out HG2.out H2.out.bel H3.out) ?_
        rintro W hS
        have HS := hide hS
        clear hS HT HT2 HT3 HX H2 H3 HG HZ HB HG2
        obtain ⟨⟨g, hR, hg⟩, hz, hb⟩ := HS.out
        have hLN := RI.len_any hR
        rw [HUL.out] at hLN
        have HLN := hide hLN
        clear hR hg hz hb hLN
        obtain ⟨h, hh⟩ : ∃ h : Nat, h = n / 2 := ⟨_, rfl⟩
        have hq : (n : Int).tdiv 2 = (h : Int) := by rw [hh]; exact (Int.ofNat_tdiv n 2).symm
        have hh2 : 2 * h ≤ n := by omega
        have hh3 : h ≤ n := by omega
        clear hh
        go_upto_region 17 with (go_at_call 14; (with_reducible refine HLN.out.mono ?_); rintro e w' ⟨rfl, hw⟩; rw [hw]; clear hw)
        clear HLN
        go_loopw [10] (fun t wr => ∃ i : Nat, t = .int .i64 i ∧ i ≤ h ∧ OrS w wr z (U.take (n - i))) (fun t _ => h - (intOf t).toNat)
        case atStart => exact ⟨0, rfl, Nat.zero_le _, by rw [Nat.sub_zero, ← HUL.out, List.take_length]; exact HS.out⟩
        case round =>
          clear HS
          obtain ⟨i, rfl, hi, hS⟩ := hrel
          by_cases hlt : i < h
          · have hii : (i : Int) < (h : Int) := by omega
            obtain ⟨k, hk⟩ : ∃ k, k = n - 1 - i := ⟨_, rfl⟩
            have hki : (n : Int) - 1 - (i : Int) = (k : Int) := by omega
            have hkn : (k : Int) < (n : Int) := by omega
            have hin : (i : Int) < (n : Int) := by omega
            have hkk : k + 1 = n - i := by omega
            obtain ⟨x, hux⟩ : ∃ x, U[k]? = some x := ⟨_, List.getElem?_eq_getElem (by rw [HUL.out]; omega)⟩
            have hV : U.take (n - i) = U.take k ++ [x] := by rw [← hkk]; exact take_top U k x hux
            rw [hV] at hS
            have HSB := hide hS
            obtain ⟨y, hy⟩ : ∃ y, L[k]? = some y := ⟨_, List.getElem?_eq_getElem (by rw [← HNL.out]; omega)⟩
            have hx : L[i]? = some x := by
              rw [HU.out, fillV_at true L k (by rw [← HNL.out]; omega), ← HNL.out] at hux
              rw [← hux]
              simp only [if_pos]
              congr 1; omega
            obtain ⟨b, o, rfl, hc⟩ := (HL.out.below HSB.out.bel) i x hx
            obtain ⟨b', o', he, hc2⟩ := (HL.out.below HSB.out.bel) k y hy
            cases he
            have HRD := hide (HL.out)
            have hbl := World.block_lt_of_cell? wr _ hc
            obtain ⟨⟨g, hR, hg⟩, hz, hb⟩ := hS
            have hP := RI.popTop_any x hR (by decide)
            have HP := hide hP
            have HZ := hide hz
            have HG := hide hg
            have HB := hide hb
            have HK : Hid (k = n - (i + 1)) := hide (by omega)
            have HCS : Hid (∀ w2, OrS w w2 z (U.take k) → w2.cell? ⟨b, o + k, none⟩ = some (.int .i64 y) ∧ w2.cell? ⟨b, o + i, none⟩ = some (.int .i64 x)) := hide (fun w2 q => by
              obtain ⟨b2, o2, e1, e2⟩ := (HL.out.below q.bel) k y hy
              cases e1
              obtain ⟨b3, o3, e3, e4⟩ := (HL.out.below q.bel) i x hx
              cases e3
              exact ⟨e2, e4⟩)
            clear hR hP hz hg hb hk hkk hux hV hx hc hy hc2 HSB HRD
            go_wp2_with (go_at_call 15; (with_reducible refine HP.out.mono ?_); rintro e w2 ⟨rfl, h1⟩; have H2 := hide (OrS.of HZ.out HG.out HB.out h1); clear h1; simp only [RI.elV]; have hcs := HCS.out w2 H2.out; obtain ⟨hcs, hct⟩ := hcs; have hb2 := World.block_lt_of_cell? w2 _ hcs)
            go_roundw
            case rel =>
              refine ⟨i + 1, by go_num, by omega, ?_⟩
              rw [← HK.out]
              exact H2.out
            case measure => simp [intOf]; omega
          · have hii : ¬ (i : Int) < (h : Int) := by omega
            obtain rfl : h = i := by omega
            have HS : Hid (OrS w wr z ((U.take (n - h)).drop (h - h))) := hide (by rw [Nat.sub_self]; exact hS)
            clear hS
            go_upto_region 26 with fail
            go_loopw [14] (fun t wr => ∃ i : Nat, t = .int .i64 i ∧ i ≤ n ∧ h ≤ i ∧ OrS w wr z ((U.take (n - h)).drop (i - h))) (fun t _ => n - (intOf t).toNat)
            case atStart => exact ⟨h, rfl, hh3, Nat.le_refl _, HS.out⟩
            case round =>
              clear HS hii hi hlt
              obtain ⟨i, rfl, hi, hhi, hS⟩ := hrel
              by_cases hlt : i < n
              · have hii : (i : Int) < (n : Int) := by omega
                obtain ⟨k, hk⟩ : ∃ k, k = n - 1 - (i - h) := ⟨_, rfl⟩
                have hki : (n : Int) - 1 - ((i : Int) - (h : Int)) = (k : Int) := by omega
                have hkn : (k : Int) < (n : Int) := by omega
                have hj : i - h < n - h := by omega
                obtain ⟨x, hux⟩ : ∃ x, U[i - h]? = some x := ⟨_, List.getElem?_eq_getElem (by rw [HUL.out]; omega)⟩
                have hV := drop_bot U (n - h) (i - h) x hj hux
                rw [hV] at hS
                have HSB := hide hS
                have hx : L[k]? = some x := by
                  rw [HU.out, fillV_at true L (i - h) (by rw [← HNL.out]; omega), ← HNL.out] at hux
                  rw [← hux]
                  simp only [if_pos]
                  congr 1
                obtain ⟨b, o, rfl, hc⟩ := (HL.out.below HSB.out.bel) k x hx
                have hbl := World.block_lt_of_cell? wr _ hc
                obtain ⟨⟨g, hR, hg⟩, hz, hb⟩ := hS
                have hP := RI.popBottom_any x hR (by decide)
                have HP := hide hP
                have HZ := hide hz
                have HG := hide hg
                have HB := hide hb
                have HK : Hid (i - h + 1 = i + 1 - h) := hide (by omega)
                have HCS : Hid (∀ w2, OrS w w2 z ((U.take (n - h)).drop (i - h + 1)) → w2.cell? ⟨b, o + k, none⟩ = some (.int .i64 x)) := hide (fun w2 q => by
                  obtain ⟨b2, o2, e1, e2⟩ := (HL.out.below q.bel) k x hx
                  cases e1
                  exact e2)
                clear hR hP hz hg hb hk hux hV hx hc hj HSB
                go_wp2_with (go_at_call 16; (with_reducible refine HP.out.mono ?_); rintro e w2 ⟨rfl, h1⟩; have H2 := hide (OrS.of HZ.out HG.out HB.out h1); clear h1; simp only [RI.elV]; have hcs := HCS.out w2 H2.out; have hb2 := World.block_lt_of_cell? w2 _ hcs)
                go_roundw
                case rel =>
                  refine ⟨i + 1, by go_num, by omega, by omega, ?_⟩
                  rw [← HK.out]
                  exact H2.out
                case measure => simp [intOf]; omega
              · have hii : ¬ (i : Int) < (n : Int) := by omega
                obtain rfl : n = i := by omega
                have hV : (U.take (n - h)).drop (n - h) = [] := List.drop_eq_nil_of_le (by rw [List.length_take]; omega)
                rw [hV] at hS
                obtain ⟨⟨g, hR, hg⟩, hz, hb⟩ := hS
                have hP := RI.popTop_none hR
                have HP := hide hP
                have HW := hide (works_any wr)
                have HB := hide hb
                clear hR hP hz hg hb hV
                go_wp2_with (first | (go_at_call 15; (with_reducible refine HP.out.mono ?_); rintro e w' ⟨rfl, hw⟩; rw [hw]; clear hw; simp only [RI.elV]) | (go_at_call 6; (with_reducible refine HW.out.mono ?_); rintro e w9 ⟨rfl, h9⟩; have H9 := hide h9; clear h9))
                go_ret
                exact ⟨rfl, HB.out.trans (H9.out.mono HB.out.size)⟩

end Go.Proofs.Ytiogblfdchdioaa
