/- TableSigns, walked. -/
import Derived.Test.YtnknjcnbbljagaaTS5
namespace Go.Proofs.Ytnknjcnbbljagaa
set_option linter.unusedVariables false
set_option linter.unusedSimpArgs false
namespace GG
set_option maxRecDepth 100000
open Go.RowKit
attribute [local go_sem] Oper.semAt_some

theorem rdI_at {W : World} {g : Nat} {xs : List Int} (hc : ∀ k (h : k < xs.length), W.cell? ⟨g, k, none⟩ = some (.int .i64 xs[k])) {k : Nat} {x : Int} (h : xs[k]? = some x) : W.cell? ⟨g, k, none⟩ = some (.int .i64 x) := by
  obtain ⟨hl, e⟩ := List.getElem?_eq_some_iff.1 h
  rw [hc k hl, e]
set_option maxHeartbeats 16000000 in
theorem signs_any (w : World) (ap : Option Addr) (n c : Nat) (hS : StepsAt w ap n) (hn : n ≤ 4398046510976) : Calls Try.prog 7 #[.slice ap n c] w (TrueC w) := by
  obtain ⟨N, hN⟩ : ∃ N, N = w.heap.size := ⟨_, rfl⟩
  have HB1 : Hid (Blk (w.alloc (.cells #[.bool false] 4)) N #[.bool false] 4 ∧ Below N w (w.alloc (.cells #[.bool false] 4)) ∧ (w.alloc (.cells #[.bool false] 4)).heap.size = N + 1) := hide (by
    rw [hN]; exact ⟨Blk.made w _ _, below_alloc w _, by simp⟩)
  have HN := hide hN
  have HS := hide hS
  clear hS
  refine (callsIn_wide (n := 5)).1 ?_
  refine callsIn_of_wp_marks Try.func7 rfl trivial ?_ rfl
  refine wpIn_wide.2 ?_
  simp only [Try.ntmps7, List.size_toArray, List.length_cons, List.length_nil, Nat.reduceAdd, Nat.reduceSub, Array.replicate_succ, Array.replicate_zero, List.push_toArray, List.append_toArray, List.nil_append, List.cons_append]
  go_upto_region 1 with fail
  rw [← hN]
  clear hN
  refine name_world (fun W => Blk W N #[.bool false] 4 ∧ Below N w W ∧ W.heap.size = N + 1) HB1.out ?_
  rintro W1 ⟨hk1, hb1, hs1⟩
  have HNew := hide (new_any W1 FS 0 0)
  unfold hvF at HNew
  have HK1 := hide hk1
  have HW1 := hide hb1
  have HZ1 := hide hs1
  clear hk1 hb1 hs1 HB1
  go_upto_region 2 with (go_at_call 22; refine HNew.out.mono ?_; rintro e w4 ⟨z, g, rfl, ht, hz, hg, hb⟩; have HT4 := hide ht; have HB4 := hide hb; have HZ := hide hz; have HG := hide hg; clear ht hb hz hg)
  have HRN := hide (RR.new_any w4 1 (-1))
  go_upto_region 3 with (go_at_call 11; (with_reducible refine HRN.out.mono ?_); rintro e w5 ⟨r, h, rfl, hr, hr1, hr2, hb5⟩; have HR5 := hide hr; have HR1 := hide hr1; have HR2 := hide hr2; have HB5 := hide hb5; clear hr hr1 hr2 hb5)
  have HS0 : Hid (Both W1 (N + 1) z r 0 w5) := hide (by
    have hs1 := HZ1.out
    have h4 := HB4.out.size
    refine ⟨⟨g, g, h, h, newT, oneS_new HT4.out (by have := HZ.out; omega) (by have := HG.out; omega) (by omega) HR5.out HR1.out HR2.out HB5.out⟩, ?_⟩
    have h1 : Below (N + 1) W1 w4 := by rw [← hs1]; exact HB4.out
    exact h1.trans (HB5.out.mono (by omega)))
  clear HT4 HB4 HZ HG HNew HRN HR5 HR1 HR2 HB5
  go_upto_region 6 with fail
  have HSt : Hid (∀ W, Below (N + 1) W1 W → ∀ i, i < n → ∃ b o, ap = some ⟨b, o, none⟩ ∧ b < N ∧ ∃ (d : Int) (oo : Bool) (k v : Int), W.cell? ⟨b, o + i * 4, none⟩ = some (.int .i64 d) ∧ W.cell? ⟨b, o + i * 4 + 1, none⟩ = some (.bool oo) ∧ W.cell? ⟨b, o + i * 4 + 2, none⟩ = some (.int .i64 k) ∧ W.cell? ⟨b, o + i * 4 + 3, none⟩ = some (.int .i64 v)) := hide (fun W hb i hi => by
    obtain ⟨b, o, e, hbl, d, oo, k, v, e0, e1, e2, e3⟩ := HS.out i hi
    rw [← HN.out] at hbl
    have hbw : Below N w W := HW1.out.trans (hb.mono (by omega))
    exact ⟨b, o, e, hbl, d, oo, k, v, (hbw.cell (p := ⟨b, o + i * 4, none⟩) hbl).trans e0, (hbw.cell (p := ⟨b, o + i * 4 + 1, none⟩) hbl).trans e1, (hbw.cell (p := ⟨b, o + i * 4 + 2, none⟩) hbl).trans e2, (hbw.cell (p := ⟨b, o + i * 4 + 3, none⟩) hbl).trans e3⟩)
  clear HS
  go_loopw [5] (fun t wr => ∃ j : Nat, t = .int .i64 j ∧ j ≤ n ∧ Both W1 (N + 1) z r j wr) (fun t _ => n - (intOf t).toNat)
  case atStart => exact ⟨0, rfl, Nat.zero_le _, HS0.out⟩
  case round =>
    clear HS0
    obtain ⟨j, rfl, hj, hB⟩ := hrel
    by_cases hlt : j < n
    · have hji : (j : Int) < (n : Int) := by omega
      have hjb : j ≤ 4398046511104 := by omega
      obtain ⟨b, o, rfl, hbl, d, oo, k, v, e0, e1, e2, e3⟩ := HSt.out wr hB.2 j hlt
      obtain ⟨⟨gy, ge, hy, he, T, hO⟩, hbel⟩ := hB
      have hbs : b < wr.heap.size := by have := hbel.size; have := HZ1.out; omega
      have HO := hide hO
      have HBE := hide hbel
      have HSZ : Hid (N + 1 ≤ wr.heap.size) := hide (by have := hbel.size; have := HZ1.out; omega)
      obtain ⟨q, hq, hkq⟩ := and31 k
      have HQ := hide hq
      have HV : Hid (∀ W, Below (N + 1) wr W → W.cell? ⟨b, o + j * 4 + 3, none⟩ = some (.int .i64 v) ∧ b < W.heap.size) := hide (fun W hb => by
        have hbl' : b < N + 1 := by omega
        exact ⟨(hb.cell (p := ⟨b, o + j * 4 + 3, none⟩) hbl').trans e3, Nat.lt_of_lt_of_le hbs hb.size⟩)
      clear hO hbel hq hbl
      go_upto_region 10 with fail
      clear e2 hkq
      cases oo with
      | false =>
        go_upto_region 12 with fail
        have HSg := hide (signed_any wr q 0 HQ.out)
        have HDm := hide (sg_dm HQ.out 0)
        have HVal := hide (sg_val HQ.out 0)
        have HTag : Hid (tagG (sgB q 0) = 0) := hide (sg_tag HQ.out (.inl rfl))
        generalize sgB q 0 = f at *
        go_upto_region 13 with (go_at_call 43; (with_reducible refine HSg.out.mono ?_); rintro e w' ⟨rfl, hw⟩; rw [hw]; clear hw)
        clear HSg
        obtain ⟨a1, ha1⟩ : ∃ x, x = ans1 T f := ⟨_, rfl⟩
        obtain ⟨a2, ha2⟩ : ∃ x, x = ans2 T f := ⟨_, rfl⟩
        by_cases hd : d = 1
        · have hdb : (d == 1) = true := by simpa using hd
          have HD1 := hide (HO.out.del1 f HDm.out)
          have HD2 : Hid (∀ W, Half wr (N + 1) z gy ge r hy he T (delT eqG hsG T f) j W → Calls Try.prog 44 #[.pointer (some ⟨r, 0, none⟩), .int .i64 (q : Int)] W fun e W2 => e = .returned (.tuple #[.int .i64 a1, .bool a2]) ∧ Both wr (N + 1) z r (j + 1) W2) := hide (fun W hh => by
            have := hh.del2 f HSZ.out
            rw [HVal.out, ← ha1, ← ha2] at this
            exact this)
          rw [← ha1, ← ha2] at HD1
          clear ha1 ha2 HV e1 e3 hd
          go_upto_region 15 with (go_at_call 27; (with_reducible refine HD1.out.mono ?_); rintro e w2 ⟨rfl, hh⟩; have HH := hide hh; clear hh)
          have HD3 := hide (HD2.out w2 HH.out)
          clear HD1 HD2 e0 hdb
          go_wp2_with (go_at_call 44; (with_reducible refine HD3.out.mono ?_); rintro e w3 ⟨rfl, hh⟩; have HH3 := hide hh; clear hh)
          go_roundw
          case rel => exact ⟨j + 1, by go_num, by omega, HH3.out.1, HBE.out.trans HH3.out.2⟩
          case measure => simp [intOf]; omega
        · have HD1 := hide (HO.out.put1 (by omega) f v HDm.out)
          have HD2 : Hid (∀ W, Half wr (N + 1) z gy ge r hy he T (putT eqG hsG T f v) j W → Calls Try.prog 45 #[.pointer (some ⟨r, 0, none⟩), .int .i64 (q : Int), .int .i64 0, .int .i64 v] W fun e W2 => e = .returned (.tuple #[.int .i64 a1, .bool a2]) ∧ Both wr (N + 1) z r (j + 1) W2) := hide (fun W hh => by
            have := hh.put2 f v HSZ.out (by omega)
            rw [HVal.out, HTag.out, ← ha1, ← ha2] at this
            exact this)
          rw [← ha1, ← ha2] at HD1
          clear ha1 ha2 e1
          go_upto_region 19 with (go_at_call 28; (with_reducible refine HD1.out.mono ?_); rintro e w2 ⟨rfl, hh⟩; have HH := hide hh; clear hh)
          have HD3 := hide (HD2.out w2 HH.out)
          obtain ⟨e4, hb4⟩ := HV.out w2 (HH.out.bel HSZ.out)
          clear HD1 HD2 e0 e3 hbs hd HV
          go_wp2_with (go_at_call 45; (with_reducible refine HD3.out.mono ?_); rintro e w3 ⟨rfl, hh⟩; have HH3 := hide hh; clear hh)
          go_roundw
          case rel => exact ⟨j + 1, by go_num, by omega, HH3.out.1, HBE.out.trans HH3.out.2⟩
          case measure => simp [intOf]; omega
      | true =>
        by_cases hq0 : q = 0
        · have hqb : ((q : Int) == 0) = true := by rw [hq0]; rfl
          have HQ0 := hide hq0
          clear hq0
          go_upto_region 12 with fail
          clear hqb
          have HSg := hide (signed_any wr q 1 HQ.out)
          have HDm := hide (sg_dm HQ.out 1)
          have HVal := hide (sg_val HQ.out 1)
          have HTag : Hid (tagG (sgB q 1) = 1) := hide (sg_tag HQ.out (.inr ⟨rfl, HQ0.out⟩))
          generalize sgB q 1 = f at *
          go_upto_region 13 with (go_at_call 43; (with_reducible refine HSg.out.mono ?_); rintro e w' ⟨rfl, hw⟩; rw [hw]; clear hw)
          clear HSg
          obtain ⟨a1, ha1⟩ : ∃ x, x = ans1 T f := ⟨_, rfl⟩
          obtain ⟨a2, ha2⟩ : ∃ x, x = ans2 T f := ⟨_, rfl⟩
          by_cases hd : d = 1
          · have hdb : (d == 1) = true := by simpa using hd
            have HD1 := hide (HO.out.del1 f HDm.out)
            have HD2 : Hid (∀ W, Half wr (N + 1) z gy ge r hy he T (delT eqG hsG T f) j W → Calls Try.prog 44 #[.pointer (some ⟨r, 0, none⟩), .int .i64 (q : Int)] W fun e W2 => e = .returned (.tuple #[.int .i64 a1, .bool a2]) ∧ Both wr (N + 1) z r (j + 1) W2) := hide (fun W hh => by
              have := hh.del2 f HSZ.out
              rw [HVal.out, ← ha1, ← ha2] at this
              exact this)
            rw [← ha1, ← ha2] at HD1
            clear ha1 ha2 HV e1 e3 hd
            go_upto_region 15 with (go_at_call 27; (with_reducible refine HD1.out.mono ?_); rintro e w2 ⟨rfl, hh⟩; have HH := hide hh; clear hh)
            have HD3 := hide (HD2.out w2 HH.out)
            clear HD1 HD2 e0 hdb
            go_wp2_with (go_at_call 44; (with_reducible refine HD3.out.mono ?_); rintro e w3 ⟨rfl, hh⟩; have HH3 := hide hh; clear hh)
            go_roundw
            case rel => exact ⟨j + 1, by go_num, by omega, HH3.out.1, HBE.out.trans HH3.out.2⟩
            case measure => simp [intOf]; omega
          · have HD1 := hide (HO.out.put1 (by omega) f v HDm.out)
            have HD2 : Hid (∀ W, Half wr (N + 1) z gy ge r hy he T (putT eqG hsG T f v) j W → Calls Try.prog 45 #[.pointer (some ⟨r, 0, none⟩), .int .i64 (q : Int), .int .i64 1, .int .i64 v] W fun e W2 => e = .returned (.tuple #[.int .i64 a1, .bool a2]) ∧ Both wr (N + 1) z r (j + 1) W2) := hide (fun W hh => by
              have := hh.put2 f v HSZ.out (by omega)
              rw [HVal.out, HTag.out, ← ha1, ← ha2] at this
              exact this)
            rw [← ha1, ← ha2] at HD1
            clear ha1 ha2 e1
            go_upto_region 19 with (go_at_call 28; (with_reducible refine HD1.out.mono ?_); rintro e w2 ⟨rfl, hh⟩; have HH := hide hh; clear hh)
            have HD3 := hide (HD2.out w2 HH.out)
            obtain ⟨e4, hb4⟩ := HV.out w2 (HH.out.bel HSZ.out)
            clear HD1 HD2 e0 e3 hbs hd HV
            go_wp2_with (go_at_call 45; (with_reducible refine HD3.out.mono ?_); rintro e w3 ⟨rfl, hh⟩; have HH3 := hide hh; clear hh)
            go_roundw
            case rel => exact ⟨j + 1, by go_num, by omega, HH3.out.1, HBE.out.trans HH3.out.2⟩
            case measure => simp [intOf]; omega
        · have hqb : ((q : Int) == 0) = false := by simp; omega
          clear hq0
          go_upto_region 12 with fail
          clear hqb
          have HSg := hide (signed_any wr q 0 HQ.out)
          have HDm := hide (sg_dm HQ.out 0)
          have HVal := hide (sg_val HQ.out 0)
          have HTag : Hid (tagG (sgB q 0) = 0) := hide (sg_tag HQ.out (.inl rfl))
          generalize sgB q 0 = f at *
          go_upto_region 13 with (go_at_call 43; (with_reducible refine HSg.out.mono ?_); rintro e w' ⟨rfl, hw⟩; rw [hw]; clear hw)
          clear HSg
          obtain ⟨a1, ha1⟩ : ∃ x, x = ans1 T f := ⟨_, rfl⟩
          obtain ⟨a2, ha2⟩ : ∃ x, x = ans2 T f := ⟨_, rfl⟩
          by_cases hd : d = 1
          · have hdb : (d == 1) = true := by simpa using hd
            have HD1 := hide (HO.out.del1 f HDm.out)
            have HD2 : Hid (∀ W, Half wr (N + 1) z gy ge r hy he T (delT eqG hsG T f) j W → Calls Try.prog 44 #[.pointer (some ⟨r, 0, none⟩), .int .i64 (q : Int)] W fun e W2 => e = .returned (.tuple #[.int .i64 a1, .bool a2]) ∧ Both wr (N + 1) z r (j + 1) W2) := hide (fun W hh => by
              have := hh.del2 f HSZ.out
              rw [HVal.out, ← ha1, ← ha2] at this
              exact this)
            rw [← ha1, ← ha2] at HD1
            clear ha1 ha2 HV e1 e3 hd
            go_upto_region 15 with (go_at_call 27; (with_reducible refine HD1.out.mono ?_); rintro e w2 ⟨rfl, hh⟩; have HH := hide hh; clear hh)
            have HD3 := hide (HD2.out w2 HH.out)
            clear HD1 HD2 e0 hdb
            go_wp2_with (go_at_call 44; (with_reducible refine HD3.out.mono ?_); rintro e w3 ⟨rfl, hh⟩; have HH3 := hide hh; clear hh)
            go_roundw
            case rel => exact ⟨j + 1, by go_num, by omega, HH3.out.1, HBE.out.trans HH3.out.2⟩
            case measure => simp [intOf]; omega
          · have HD1 := hide (HO.out.put1 (by omega) f v HDm.out)
            have HD2 : Hid (∀ W, Half wr (N + 1) z gy ge r hy he T (putT eqG hsG T f v) j W → Calls Try.prog 45 #[.pointer (some ⟨r, 0, none⟩), .int .i64 (q : Int), .int .i64 0, .int .i64 v] W fun e W2 => e = .returned (.tuple #[.int .i64 a1, .bool a2]) ∧ Both wr (N + 1) z r (j + 1) W2) := hide (fun W hh => by
              have := hh.put2 f v HSZ.out (by omega)
              rw [HVal.out, HTag.out, ← ha1, ← ha2] at this
              exact this)
            rw [← ha1, ← ha2] at HD1
            clear ha1 ha2 e1
            go_upto_region 19 with (go_at_call 28; (with_reducible refine HD1.out.mono ?_); rintro e w2 ⟨rfl, hh⟩; have HH := hide hh; clear hh)
            have HD3 := hide (HD2.out w2 HH.out)
            obtain ⟨e4, hb4⟩ := HV.out w2 (HH.out.bel HSZ.out)
            clear HD1 HD2 e0 e3 hbs hd HV
            go_wp2_with (go_at_call 45; (with_reducible refine HD3.out.mono ?_); rintro e w3 ⟨rfl, hh⟩; have HH3 := hide hh; clear hh)
            go_roundw
            case rel => exact ⟨j + 1, by go_num, by omega, HH3.out.1, HBE.out.trans HH3.out.2⟩
            case measure => simp [intOf]; omega
    · have hji : ¬ (j : Int) < (n : Int) := by omega
      obtain rfl : j = n := by omega
      clear HSt
      obtain ⟨⟨gy, ge, hy, he, T, hO⟩, hbel⟩ := hB
      have hsz : N + 1 ≤ wr.heap.size := by have := hbel.size; have := HZ1.out; omega
      have HD1 := hide (hO.put1 (by omega) 4617315517961601024 1 five_dm)
      have HD2 : Hid (∀ W, Half wr (N + 1) z gy ge r hy he T (putT eqG hsG T 4617315517961601024 1) j W → Calls Try.prog 46 #[.pointer (some ⟨r, 0, none⟩), .int .i64 5, .int .i64 1] W fun e W2 => e = .returned (.tuple #[.int .i64 (ans1 T 4617315517961601024), .bool (ans2 T 4617315517961601024)]) ∧ Both wr (N + 1) z r (j + 1) W2) := hide (fun W hh => by
        have := hh.put3 4617315517961601024 1 five_tag hsz (by omega)
        rw [five_val] at this
        exact this)
      have HBE := hide hbel
      generalize ans1 T 4617315517961601024 = a1 at *
      generalize ans2 T 4617315517961601024 = a2 at *
      clear hO hbel
      go_upto_region 23 with (go_at_call 28; (with_reducible refine HD1.out.mono ?_); rintro e w2 ⟨rfl, hh⟩; have HH := hide hh; clear hh)
      have HD3 := hide (HD2.out w2 HH.out)
      clear HD1 HD2 hji hlt
      go_upto_region 24 with (go_at_call 46; (with_reducible refine HD3.out.mono ?_); rintro e w3 ⟨rfl, hh⟩; have HH3 := hide hh; clear hh)
      obtain ⟨⟨gy', ge', hy', he', T', hO3⟩, hb3⟩ := HH3.out
      have hp3 := prs_len hO3.inv
      have HAl := hide (RR.all_any w3 hO3.rb (by
        have e := congrArg List.length (want_is T')
        rw [flat_len, want_len] at e
        omega))
      rw [want_is] at HAl
      have HO3 := hide hO3
      have HB3 : Hid (Below (N + 1) W1 w3) := hide (HBE.out.trans hb3)
      clear hO3 hb3 HH HH3 HD3 HBE
      obtain ⟨X, hX⟩ : ∃ X, X = T'.prs := ⟨_, rfl⟩
      rw [← hX] at HAl hp3
      have HX := hide hX
      clear hX
      have HQ4 : Hid (∀ v w4, OwnsI w4 w3.heap.size v (wantL X) → Below w3.heap.size w3 w4 → ∃ aw cw, v = .slice aw (2 * X.length) cw ∧ OneS (w4.alloc (.cells #[v] 40)) (N + 1) z gy' ge' r hy' he' T' (j + 1) ∧ Blk (w4.alloc (.cells #[v] 40)) w4.heap.size #[v] 40 ∧ RR.RdI (w4.alloc (.cells #[v] 40)) aw (wantL X) ∧ Below (N + 1) W1 (w4.alloc (.cells #[v] 40))) := hide (fun v w4 ho hb => by
        obtain ⟨aw, cw, rfl, _⟩ := ho.form
        have hba := below_alloc w4 (.cells #[.slice aw (wantL X).length cw] 40)
        rw [want_len] at ho hba ⊢
        refine ⟨aw, cw, rfl, (HO3.out.below hb).below hba, Blk.made w4 _ _, (RR.RdI.own ho).below hba, ?_⟩
        have h3 := HB3.out
        exact (h3.trans (hb.mono (by have := h3.size; have := HZ1.out; omega))).trans (hba.mono (by have := h3.size; have := hb.size; have := HZ1.out; omega)))
      go_upto_region 25 with (go_at_call 47; (with_reducible refine HAl.out.mono ?_); rintro e w4 ⟨vw, rfl, hw1, hw2⟩; obtain ⟨aw, cw, rfl, hw3, hw4, hw5, hw6⟩ := HQ4.out vw w4 hw1 hw2; have HW3 := hide hw3; have HW4 := hide hw4; have HW5 := hide hw5; have HW6 := hide hw6; clear hw1 hw2 hw3 hw4 hw5 hw6)
      obtain ⟨bw, hbw⟩ : ∃ b, b = w4.heap.size := ⟨_, rfl⟩
      rw [← hbw] at HW4 ⊢
      clear hbw
      refine name_world (fun W => OneS W (N + 1) z gy' ge' r hy' he' T' (j + 1) ∧ Blk W bw #[.slice aw (2 * X.length) cw] 40 ∧ RR.RdI W aw (wantL X) ∧ Below (N + 1) W1 W) ⟨HW3.out, HW4.out, HW5.out, HW6.out⟩ ?_
      rintro W5 ⟨hO5, hw5, hr5, hb5⟩
      have HTg := hide (RR.tags_any W5 hO5.rb (by
        have e := congrArg List.length (tags_is T')
        rw [tag_len, ← HX.out] at e
        omega))
      rw [tags_is, ← HX.out] at HTg
      have HO5 := hide hO5
      have HBW5 := hide hw5
      have HRW5 := hide hr5
      have HB5 := hide hb5
      clear HW3 HW4 HW5 HW6 HQ4 HAl HO3 HB3 hO5 hw5 hr5 hb5
      have HQ6 : Hid (∀ v w6, OwnsI w6 W5.heap.size v (tagL X) → Below W5.heap.size W5 w6 → ∃ at' ct, v = .slice at' X.length ct ∧ OneS (w6.alloc (.cells #[v] 40)) (N + 1) z gy' ge' r hy' he' T' (j + 1) ∧ Blk (w6.alloc (.cells #[v] 40)) w6.heap.size #[v] 40 ∧ RR.RdI (w6.alloc (.cells #[v] 40)) at' (tagL X) ∧ Blk (w6.alloc (.cells #[v] 40)) bw #[.slice aw (2 * X.length) cw] 40 ∧ RR.RdI (w6.alloc (.cells #[v] 40)) aw (wantL X) ∧ Below (N + 1) W1 (w6.alloc (.cells #[v] 40)) ∧ bw < w6.heap.size) := hide (fun v w6 ho hb => by
        obtain ⟨at', ct, rfl, _⟩ := ho.form
        have hba := below_alloc w6 (.cells #[.slice at' (tagL X).length ct] 40)
        rw [tag_len] at ho hba ⊢
        have h5 := HBW5.out.below hb HBW5.out.lt
        have h3 := HB5.out
        exact ⟨at', ct, rfl, (HO5.out.below hb).below hba, Blk.made w6 _ _, (RR.RdI.own ho).below hba, h5.below hba h5.lt, (HRW5.out.below hb).below hba, (h3.trans (hb.mono (by have := h3.size; have := HZ1.out; omega))).trans (hba.mono (by have := h3.size; have := hb.size; have := HZ1.out; omega)), h5.lt⟩)
      go_upto_region 26 with (go_at_call 48; (with_reducible refine HTg.out.mono ?_); rintro e w6 ⟨vt, rfl, hw1, hw2⟩; obtain ⟨at', ct, rfl, hv1, hv2, hv3, hv4, hv5, hv6, hv7⟩ := HQ6.out vt w6 hw1 hw2; have HV1 := hide hv1; have HV2 := hide hv2; have HV3 := hide hv3; have HV4 := hide hv4; have HV5 := hide hv5; have HV6 := hide hv6; have HV7 := hide hv7; clear hw1 hw2 hv1 hv2 hv3 hv4 hv5 hv6 hv7)
      obtain ⟨bt, hbt⟩ : ∃ b, b = w6.heap.size := ⟨_, rfl⟩
      rw [← hbt] at HV2 HV7 ⊢
      have HS6 : Hid ((w6.alloc (.cells #[.slice at' X.length ct] 40)).heap.size = bt + 1) := hide (by rw [hbt]; simp)
      clear hbt
      refine name_world (fun W => OneS W (N + 1) z gy' ge' r hy' he' T' (j + 1) ∧ Blk W bt #[.slice at' X.length ct] 40 ∧ RR.RdI W at' (tagL X) ∧ Blk W bw #[.slice aw (2 * X.length) cw] 40 ∧ RR.RdI W aw (wantL X) ∧ Below (N + 1) W1 W ∧ W.heap.size = bt + 1) ⟨HV1.out, HV2.out, HV3.out, HV4.out, HV5.out, HV6.out, HS6.out⟩ ?_
      rintro W7 ⟨hO7, ht7, hrt7, hw7, hr7, hb7, hs7⟩
      have HG : Hid (RgS w N bw bt (bt + 1) aw at' (2 * X.length) cw X.length ct X [] (W7.alloc (.cells #[.int .i64 0] 3)) ∧ OneS (W7.alloc (.cells #[.int .i64 0] 3)) (N + 1) z gy' ge' r hy' he' T' (j + 1)) := hide (by
        have hba := below_alloc W7 (.cells #[.int .i64 0] 3)
        have hN7 : N + 1 ≤ W7.heap.size := by have := hb7.size; have := HZ1.out; omega
        have hk7 : Blk W7 N #[.bool false] 4 := HK1.out.below hb7 (by omega)
        refine ⟨⟨?_, hw7.below hba hw7.lt, ht7.below hba ht7.lt, hr7.below hba, hrt7.below hba, hk7.below hba hk7.lt, ?_⟩, hO7.below hba⟩
        · have := Blk.made W7 #[.int .i64 0] 3
          rw [hs7] at this
          exact this
        · exact HW1.out.trans ((hb7.mono (by omega)).trans (hba.mono (by omega))))
      have HGA : Hid ((0 < (wantL X).length → ∀ g, aw = some ⟨g, 0, none⟩ → g ≠ bt + 1) ∧ (0 < (tagL X).length → ∀ g, at' = some ⟨g, 0, none⟩ → g ≠ bt + 1) ∧ N < bt + 1 ∧ bw ≠ bt + 1) := hide (by
        have hN7 : N + 1 ≤ W7.heap.size := by have := hb7.size; have := HZ1.out; omega
        refine ⟨fun h0 g e => ?_, fun h0 g e => ?_, by omega, by have := HV7.out; omega⟩
        · obtain ⟨g', e', hl, _⟩ := hr7 h0
          rw [e] at e'
          cases e'
          omega
        · obtain ⟨g', e', hl, _⟩ := hrt7 h0
          rw [e] at e'
          cases e'
          omega)
      have HS7 := hide hs7
      clear HV1 HV2 HV3 HV4 HV5 HV6 HS6 HQ6 HTg HO5 HBW5 HRW5 HB5 hO7 ht7 hrt7 hw7 hr7 hb7
      go_upto_region 27 with fail
      clear hs7
      refine name_world (fun W => RgS w N bw bt (bt + 1) aw at' (2 * X.length) cw X.length ct X [] W ∧ OneS W (N + 1) z gy' ge' r hy' he' T' (j + 1)) HG.out ?_
      rintro W8 ⟨hG8, hO8⟩
      have HA := hide (all_any W8 z)
      have hnn := allNotNil W8.heap.size
      have HDX : Hid (∀ x ∈ X, Dm x.1) := hide (fun x hx => by rw [HX.out] at hx; exact mem_dm hO8.tb hx)
      have HG8 := hide hG8
      have HT8 := hide hO8.tb
      clear HG hG8 hO8
      go_upto_region 30 with (go_at_call 30; refine HA.out.mono ?_; rintro e w' ⟨rfl, hw⟩; rw [hw]; clear hw; unfold allV)
      have hN8 : N < W8.heap.size := HG8.out.res.lt
      have HT9 := hide (HT8.out.below (below_alloc W8 (.cells #[.pointer (some ⟨z, 0, none⟩)] 49)))
      have HBx : Hid (Blk (W8.alloc (.cells #[.pointer (some ⟨z, 0, none⟩)] 49)) W8.heap.size #[.pointer (some ⟨z, 0, none⟩)] 49) := hide (Blk.made W8 _ _)
      have HG9 := hide (HG8.out.below (below_alloc W8 (.cells #[.pointer (some ⟨z, 0, none⟩)] 49)) (by omega))
      refine name_world (fun W => TbAt W z gy' ge' (hvF FS 0 0) T' ∧ Blk W W8.heap.size #[.pointer (some ⟨z, 0, none⟩)] 49 ∧ RgS w N bw bt (bt + 1) aw at' (2 * X.length) cw X.length ct X [] W) ⟨HT9.out, HBx.out, HG9.out⟩ ?_
      rintro W ⟨hT, hBx, hG⟩
      have HTW := hide hT
      have HBW := hide hBx
      have HGW := hide hG
      have hNW : N ≤ W.heap.size := by have := hG.res.lt; omega
      clear HT9 HBx HG9 hT hBx hG HA hnn HG8 HT8
      generalize W8.heap.size = b6 at *
      obtain ⟨lw, hlw⟩ : ∃ l, l = 2 * X.length := ⟨_, rfl⟩
      obtain ⟨m, hm⟩ : ∃ l, l = X.length := ⟨_, rfl⟩
      rw [← hlw, ← hm] at HGW
      rw [← hm] at hp3
      have HLW : Hid (lw = 2 * m) := hide (by omega)
      have HM := hide hm
      clear hlw hm
      go_wp2
      refine (wpIn_wide (n := 5)).1 ?_
      refine wpIn_rangeKp rfl (by omega) (gf := 73) (lb := #[.pointer (some ⟨b6, 0, none⟩)]) rfl trivial (enters_of Try.func73 (by kernel_rfl) rfl) (all_fit (5 - 1) W HTW.out b6 HBW.out) (Below.refl _ _) (KeepT.keeping tys) (fun _ => rfl) (fun _ _ _ _ _ _ _ h _ _ => h)
        (fun pre W => RgS w N bw bt (bt + 1) aw at' lw cw m ct X pre W)
        (fun _ _ _ => False)
        (RgS.ownFrom hNW)
        (fun _ _ _ _ _ h _ _ => h)
        HGW.out ?round ?done ?stop
      case round =>
        rintro l pre ⟨kx, vx⟩ Wp W1 hG hbW hfit
        have hfit' : (pre ++ [(kx, vx)]) <+: X := by rw [HX.out]; exact hfit
        obtain ⟨hl, hmem, f0, f1, f2⟩ := at_pre hfit'
        have hdm : Dm kx := HDX.out _ hmem
        have hG1 := hG.below hbW (by have := hG.res.lt; omega)
        obtain ⟨p, hp⟩ : ∃ p, p = pre.length := ⟨_, rfl⟩
        obtain ⟨ga, rfl, hga, hca⟩ := hG1.rw' (by rw [want_len]; omega)
        obtain ⟨gt, rfl, hgt, hct⟩ := hG1.rt (by rw [tag_len]; omega)
        obtain ⟨p2, hp2⟩ : ∃ x, x = 2 * p := ⟨_, rfl⟩
        obtain ⟨p3, hp3'⟩ : ∃ x, x = 2 * p + 1 := ⟨_, rfl⟩
        have cn : W1.cell? ⟨bt + 1, 0, none⟩ = some (.int .i64 (p : Int)) := by rw [hG1.n.cell, hp]; rfl
        have cw' : W1.cell? ⟨bw, 0, none⟩ = some (.slice (some ⟨ga, 0, none⟩) lw cw) := by rw [hG1.bw'.cell]; rfl
        have ct' : W1.cell? ⟨bt, 0, none⟩ = some (.slice (some ⟨gt, 0, none⟩) m ct) := by rw [hG1.t.cell]; rfl
        have ca0 : W1.cell? ⟨ga, p2, none⟩ = some (.int .i64 (valG kx : Int)) := by rw [hp2, hp]; exact rdI_at hca f0
        have ca1 : W1.cell? ⟨ga, p3, none⟩ = some (.int .i64 vx) := by rw [hp3', hp]; exact rdI_at hca f1
        have ct0 : W1.cell? ⟨gt, p, none⟩ = some (.int .i64 (tagG kx)) := by rw [hp]; exact rdI_at hct f2
        have i0 : p < m := by have := HM.out; omega
        have i1 : (p : Int) < (m : Int) := by have := HM.out; omega
        have i2 : (p2 : Int) < (lw : Int) := by have := HM.out; have := HLW.out; omega
        have i3 : (p3 : Int) < (lw : Int) := by have := HM.out; have := HLW.out; omega
        have m1 : wrap64 (2 * (p : Int)) = (p2 : Int) := by rw [hp2]; unfold wrap64; omega
        have m2 : wrap64 ((p2 : Int) + 1) = (p3 : Int) := by rw [hp2, hp3']; unfold wrap64; omega
        have m1' : IntKind.i64.wrap (2 * (p : Int)) = (p2 : Int) := (wrap_is _).symm.trans m1
        have m2' : IntKind.i64.wrap ((p2 : Int) + 1) = (p3 : Int) := (wrap_is _).symm.trans m2
        have HSg : Hid (∀ W, Calls Try.prog 43 #[.int .i64 (valG kx : Int), .int .i64 (tagG kx)] W fun e w' => e = .returned (.float .f64 (sgB (valG kx) (tagG kx))) ∧ Below W.heap.size W w') := hide (fun W => (signed_any W (valG kx) (tagG kx) (val_lt hdm)).mono (fun e w' h => ⟨h.1, by rw [h.2]; exact Below.refl _ _⟩))
        simp only [sg_back hdm] at HSg
        have hbr := bits_run kx
        have HG1 := hide hG1
        have HPb : Hid (p ≤ 8796093022208) := hide (by have := HM.out; omega)
        have HPP := hide hp
        generalize valG kx = qv at *
        generalize tagG kx = tg at *
        clear hG hbW hfit hfit' hl hmem f0 f1 f2 hdm hG1 hca hct hp hp2 hp3' m1 m2
        refine ⟨?a1, ?asg, ?bd⟩
        case asg =>
          intro W0 K hK
          refine asg2 (x1 := .tmp 121) (x2 := .tmp 122) rfl rfl rfl rfl _ W0 K ?_
          exact hK
        case bd =>
          unfold prV
          simp only [List.zip_toArray, List.zip_cons_cons, List.zip_nil_right, List.foldl_toArray, List.foldl_cons, List.foldl_nil, List.setIfInBounds_toArray, List.set_cons_succ, List.set_cons_zero, Act.put, Act.eval]
          gi_wp2
          have x1 := fun d os => cell_regrown cn d os
          have x2 := fun d os => cell_regrown cw' d os
          have x3 := fun d os => cell_regrown ct' d os
          have x4 := fun d os => cell_regrown ca0 d os
          have x5 := fun d os => cell_regrown ca1 d os
          have x6 := fun d os => cell_regrown ct0 d os
          clear cw' ct' ca0 ca1 ct0
          refine wpIn_round_quiet (by kernel_rfl) (by kernel_rfl) (by kernel_rfl) ?_
          iterate 26 quiet_step (fail)
          quiet_step (exact Calls.regrown_of (HSg.out _))
          iterate 3 quiet_step (fail)
          refine wpQuiet_nil ?_
          intro w10 hw'
          obtain ⟨⟨dq, osq⟩, hw''⟩ := hw'
          have hb10 := below_regrown W1 dq osq
          rw [← show w10 = Go.Sort.grow (redrawn W1 dq) osq from hw''] at hb10
          have hG10 := HG1.out.below hb10 (by have := HG1.out.res.lt; omega)
          have c10 : w10.cell? ⟨bt + 1, 0, none⟩ = some (.int .i64 (p : Int)) := by rw [hG10.n.cell, ← HPP.out]; rfl
          have f10 := hG10.n.frozen 0
          have l10 := hG10.n.lt
          obtain ⟨y1, y2, y3, y4⟩ := HGA.out
          have HN10 := hide (hG10.next (kx, vx) y3 y4 (by omega) y1 y2 (c := (p : Int) + 1) (by rw [HPP.out]; rfl))
          have HK10 : Hid (KeepsOthers W1 w10) := hide (KeepsOthers.of_grownBy (grownBy_below hb10 (row := none)) (fun _ _ e => by cases e))
          have HKT : Hid (KeepT tys W1 w10) := hide (KeepT.below hb10)
          have hpb := HPb.out
          clear hw'' hb10 hG10 x1 x2 x3 x4 x5 x6 cn y1 y2 y3 y4
          gi_wp2
          exact ⟨HK10.out.trans HN10.out.2.2, HKT.out.trans HN10.out.2.1, HN10.out.1⟩
      case stop =>
        rintro D c pre W3 hD hS hK
        exact hS.elim
      case done =>
        rintro D xs W3 hD hxs hG hK
        have hxs' : xs = X := by rw [HX.out]; exact hxs
        subst hxs'
        have c1 : W3.cell? ⟨bt + 1, 0, none⟩ = some (.int .i64 (m : Int)) := by rw [hG.n.cell, HM.out]; rfl
        have c2 : W3.cell? ⟨bt, 0, none⟩ = some (.slice at' m ct) := by rw [hG.t.cell]; rfl
        have c3 : W3.cell? ⟨N, 0, none⟩ = some (.bool false) := by rw [hG.res.cell]; rfl
        have f3 := hG.res.frozen 0
        have l1 := hG.n.lt
        have l2 := hG.t.lt
        have l3 := hG.res.lt
        have HRes : Hid (Blk (W3.setCell ⟨N, 0, none⟩ (.bool true)) N #[.bool true] 4) := hide (hG.res.set 0 (.bool true))
        have HDD : Hid ((W3.setCell ⟨N, 0, none⟩ (.bool true)).heap[D]? = some (.deferred (some []))) := hide (by
          rw [heap_setCell_other W3 _ D _ (fun e => by
            have h1 := hG.res
            unfold Blk at h1
            have e' : D = N := e
            rw [← e', hK] at h1
            cases h1)]
          exact hK)
        have HBL : Hid (Below w.heap.size w (W3.setCell ⟨N, 0, none⟩ (.bool true))) := hide (by
          rw [← HN.out]
          exact hG.bel.setCell (Nat.le_refl _) _)
        have HDN : Hid (w.heap.size ≤ D) := hide (by rw [← HN.out]; omega)
        clear hG hK hxs hD
        go_wp2
        exact leave1c rfl HDD.out rfl HRes.out HBL.out HDN.out
end GG
end Go.Proofs.Ytnknjcnbbljagaa
