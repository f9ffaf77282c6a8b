/- TableFloats, walked. -/
import Derived.Test.YtnknjcnbbljagaaTG8
namespace Go.Proofs.Ytnknjcnbbljagaa
set_option linter.unusedVariables false
set_option linter.unusedSimpArgs false
namespace FF
set_option maxRecDepth 100000
open Go.RowKit
attribute [local go_sem] Oper.semAt_some

/-- A script of bits. -/
def BitsAt (w : World) (aa : Option Addr) (n : Nat) : Prop := ∀ i, i < n → ∃ b o, aa = some ⟨b, o, none⟩ ∧ b < w.heap.size ∧ ∃ (k : Nat) (v : Int) (oo : Bool), k < 18446744073709551616 ∧ w.cell? ⟨b, o + i * 3, none⟩ = some (.int .u64 (k : Int)) ∧ w.cell? ⟨b, o + i * 3 + 1, none⟩ = some (.int .i64 v) ∧ w.cell? ⟨b, o + i * 3 + 2, none⟩ = some (.bool oo)
set_option maxHeartbeats 16000000 in
theorem floats_any (w : World) (ap : Option Addr) (n c : Nat) (hS : BitsAt w ap n) (hn : n ≤ 5864062014634) : Calls Try.prog 5 #[.slice ap n c] w (TrueC w) := by
  have HS := hide hS
  have HNew := hide (new_any w 23 0 0)
  unfold hvF at HNew
  clear hS
  refine (callsIn_wide (n := 5)).1 ?_
  refine callsIn_of_wp_marks Try.func5 rfl trivial ?_ rfl
  refine wpIn_wide.2 ?_
  simp only [Try.ntmps5, List.size_toArray, List.length_cons, List.length_nil, Nat.reduceAdd, Nat.reduceSub, Array.replicate_succ, Array.replicate_zero, List.push_toArray, List.append_toArray, List.nil_append, List.cons_append]
  go_upto_region 4 with (go_at_call 22; refine HNew.out.mono ?_; rintro e w4 ⟨z, g, rfl, ht, hz, hg, hb⟩; have HT4 := hide ht; have HB4 := hide hb; have HZ := hide hz; have HG := hide hg; clear ht hb hz hg)
  have HS0 : Hid (St w z g g 23 (.slice none 0 0) (.slice none 0 0) newT [] w4) := hide ⟨HT4.out, World.ownsRow_nil _ _ _ _, World.ownsRow_nil _ _ _ _, ⟨HZ.out, HG.out, HG.out⟩, HB4.out⟩
  clear HT4 HB4 HZ HG HNew
  go_wp2
  go_loopw [4, 5, 6] (fun a b t wr => ∃ (ua ub : Value) (j gy ge : Nat) (T : TB) (M : List (Nat × Int)), ua = a ∧ ub = b ∧ t = .int .i64 j ∧ j ≤ n ∧ St w z gy ge 23 ua ub T M wr ∧ Rel hfF T M j) (fun _ _ t _ => n - (intOf t).toNat)
  case atStart => exact ⟨_, _, 0, g, g, newT, [], rfl, rfl, rfl, Nat.zero_le _, HS0.out, rel_new hfF⟩
  case round =>
    clear HS0
    obtain ⟨ua, ub, j, gy, ge, T, M, rfl, rfl, rfl, hj, hst, hrel⟩ := hrel
    obtain ⟨ak, ck, hkf, hkg⟩ := hst.ks.form
    obtain ⟨av, cv, hvf, hvg⟩ := hst.vs.form
    rw [List.length_map] at hkf hkg hvf hvg
    subst hkf
    subst hvf
    have hlP := hrel.lenP
    obtain ⟨m, hm⟩ : ∃ m, m = M.length := ⟨_, rfl⟩
    have HMm := hide hm
    rw [← hm] at hkg hvg hlP hst
    have hmb : m ≤ 5864062014634 := by omega
    have HSt := hide hst
    have HRel := hide hrel
    have HKG := hide hkg
    have HVG := hide hvg
    have zl := hst.tb.blk.lt
    rw [← hm]
    clear hst hrel hkg hvg hm
    by_cases hlt : j < n
    · have hji : (j : Int) < (n : Int) := by omega
      obtain ⟨b, o, rfl, hbl, k, v, oo, hk, e0, e1, e2⟩ := HS.out j hlt
      have hbw := HSt.out.bel
      have d0 := (hbw.cell (p := ⟨b, o + j * 3, none⟩) hbl).trans e0
      have HE1 := hide e1
      have HE2 := hide e2
      have HBL := hide hbl
      have HK := hide hk
      have hbl2 := World.block_lt_of_cell? wr _ d0
      have hfr := from_run k
      clear e0 e1 e2 hbl hbw
      go_wp2
      clear hfr d0
      go_loop [8, 9] (fun a t => ∃ j2 : Nat, a = .int .i64 (atF M k j2) ∧ t = .int .i64 j2 ∧ j2 ≤ m) (fun _ t => m - (intOf t).toNat)
      case atStart => exact ⟨0, rfl, rfl, Nat.zero_le _⟩
      case round =>
        obtain ⟨j2, rfl, rfl, hj2⟩ := hrel
        by_cases hlt2 : j2 < m
        · have hji2 : (j2 : Int) < (m : Int) := by omega
          obtain ⟨gk, rfl⟩ := HKG.out (by omega)
          have hjm : j2 < (M.map Prod.fst).length := by simp; rw [← HMm.out]; exact hlt2
          have d := HSt.out.ks.at j2 hjm
          have hx : (M.map Prod.fst)[j2]'hjm = (M.getD j2 (0, 0)).1 := by
            simp at hjm
            simp [List.getD_eq_getElem?_getD, List.getElem?_eq_getElem hjm]
          rw [hx] at d
          have hgl := World.block_lt_of_cell? wr _ d
          have HA : Hid (atF M k (j2 + 1) = if eqK (M.getD j2 (0, 0)).1 k then (j2 : Int) else atF M k j2) := hide rfl
          generalize (M.getD j2 (0, 0)).1 = x at *
          cases he : eqK x k with
          | true =>
            have hb : (FloatKind.f64.format.order x k == some .eq) = true := he
            rw [he] at HA
            clear hx hjm he
            go_wp2
            go_round
            case rel => exact ⟨j2 + 1, by rw [HA.out]; rfl, by go_num, by omega⟩
            case measure => simp [intOf]; omega
          | false =>
            have hb : (FloatKind.f64.format.order x k == some .eq) = false := he
            rw [he] at HA
            clear hx hjm he
            go_wp2
            go_round
            case rel => exact ⟨j2 + 1, by rw [HA.out]; rfl, by go_num, by omega⟩
            case measure => simp [intOf]; omega
        · have hji2 : ¬ (j2 : Int) < (m : Int) := by omega
          obtain rfl : j2 = m := by omega
          have hbw := HSt.out.bel
          have d1 := (hbw.cell (p := ⟨b, o + j * 3 + 1, none⟩) HBL.out).trans HE1.out
          have d2 := (hbw.cell (p := ⟨b, o + j * 3 + 2, none⟩) HBL.out).trans HE2.out
          have HGet := hide (get_any wr HSt.out.tb hash_is k HK.out)
          have hval : ∀ T : TB, valT 0 T none = 0 := fun _ => rfl
          clear hbw hk hlt2
          rcases rel_get HRel.out hfF_eq k HK.out with ⟨r1, r2⟩ | ⟨q, r0, r1, r2, r3⟩
          · rw [← HMm.out] at r1
            rw [r1]
            simp only [r2, hval, Option.isSome_none] at HGet
            cases oo with
            | true =>
              rcases rel_del HRel.out hfF_eq k HK.out with ⟨s1, s2, s3⟩ | ⟨q', _, s1, _⟩
              case inr => exfalso; rw [← HMm.out, r1] at s1; omega
              have HDel := hide (fun q => del_any (wr.drewN q) (HSt.out.tb.drewN q) hash_is HRel.out.inv.ok k HK.out)
              unfold DelC ansV at HDel
              simp only [s2, hval, Option.isSome_none] at HDel
              have hln : (delT eqK hfF T k).len = j2 := by rw [s3.len, HMm.out]
              have HR3 := hide s3
              clear r1 r2 s1 s2 s3 d1
              go_upto_region 24 with (first | (go_at_call 26; refine HGet.out.mono ?_; rintro e w' ⟨rfl, q1, hw⟩; rw [hw]; clear hw) | (go_at_call 27; refine (HDel.out _).mono ?_; rintro e w2 ⟨rfl, hk2⟩; have HK2 := hide hk2; clear hk2))
              obtain ⟨gy', ge', hs'⟩ := (HSt.out.drewN _).table HK2.out
              have HS2 := hide hs'
              have HLn := hide (fun q => len_any (w2.drewN q) (hs'.tb.drewN q))
              simp only [hln] at HLn
              clear hs' HK2 HDel HGet HSt hln
              go_wp2_with (go_at_call 29; refine (HLn.out 0).mono ?_; rintro e w' ⟨rfl, q2, hw⟩; rw [hw]; clear hw)
              go_roundw
              case rel => exact ⟨_, _, j + 1, gy', ge', _, M, rfl, rfl, by go_num, by omega, HS2.out.drewN _, HR3.out.mono (Nat.le_succ _)⟩
              case measure => simp [intOf]; omega
            | false =>
              rcases rel_put HRel.out hfF_eq k HK.out v with ⟨s1, s2, s3⟩ | ⟨q', _, s1, _⟩
              case inr => exfalso; rw [← HMm.out, r1] at s1; omega
              have HPut := hide (fun q => put_any (wr.drewN q) (HSt.out.tb.drewN q) hash_is HRel.out.inv.ok k v HK.out (grow_ok HRel.out.inv HSt.out.tb.ly (by omega) k v))
              unfold PutC ansV at HPut
              simp only [s2, hval, Option.isSome_none] at HPut
              have hln : (putT eqK hfF T k v).len = j2 + 1 := by rw [s3.len, HMm.out]; simp
              have HR3 := hide s3
              clear r1 r2 s1 s2 s3
              go_upto_region 36 with (first | (go_at_call 26; refine HGet.out.mono ?_; rintro e w' ⟨rfl, q1, hw⟩; rw [hw]; clear hw) | (go_at_call 28; refine (HPut.out _).mono ?_; rintro e w2 ⟨rfl, hk2⟩; have HK2 := hide hk2; clear hk2))
              obtain ⟨gy', ge', hs'⟩ := (HSt.out.drewN _).table HK2.out
              have HS2 := hide hs'.two
              have HC1 : Hid (OwnsF (w2.alloc (.cells #[.float .f64 k] 51)) w.heap.size (.slice ak j2 ck) (M.map Prod.fst)) := hide (HS2.out.ks.below (below_alloc _ _))
              have HC2 : Hid ((w2.alloc (.cells #[.float .f64 k] 51)).cell? ⟨w2.heap.size, 0, none⟩ = some (.float .f64 k)) := hide (by rw [(Blk.made w2 _ _).cell]; rfl)
              have HC3 : Hid ((M.map Prod.fst).length + 1 ≤ 17592186044416) := hide (by rw [List.length_map, ← HMm.out]; omega)
              have HC4 : Hid (w.heap.size ≤ (w2.alloc (.cells #[.float .f64 k] 51)).heap.size) := hide (by have := HS2.out.bel.size; simp; omega)
              clear hs' HK2 HPut HGet HSt d1 d2
              go_wp2_with (at_builtin; refine wpList_append_flt rfl _ _ rfl w.heap.size _ (M.map Prod.fst) rfl HC1.out w2.heap.size 1 rfl k HC2.out HC3.out HC4.out ?_; intro v' w3 HO3 HG3 HL3; generalize hG : wpList _ _ _ _ _ _ = G)
              obtain ⟨aa3, ca3, hfa, _⟩ := HO3.out.form
              rw [List.length_append, List.length_map, List.length_singleton, ← HMm.out] at hfa
              subst hfa
              have HS3 := hide (HS2.out.appK (below_alloc _ _) HO3.out HG3.out)
              have e1 := (HS3.out.bel.cell (p := ⟨b, o + j * 3 + 1, none⟩) HBL.out).trans HE1.out
              have hb3 := World.block_lt_of_cell? w3 _ e1
              subst hG
              clear HC1 HC2 HC3 HC4 HO3 HG3 HL3 HS2
              have HC1 : Hid (OwnsI (w3.alloc (.cells #[.int .i64 v] 3)) w.heap.size (.slice av j2 cv) (M.map Prod.snd)) := hide (HS3.out.vs.below (below_alloc _ _))
              have HC2 : Hid ((w3.alloc (.cells #[.int .i64 v] 3)).cell? ⟨w3.heap.size, 0, none⟩ = some (.int .i64 v)) := hide (by rw [(Blk.made w3 _ _).cell]; rfl)
              have HC3 : Hid ((M.map Prod.snd).length + 1 ≤ 17592186044416) := hide (by rw [List.length_map, ← HMm.out]; omega)
              have HC4 : Hid (w.heap.size ≤ (w3.alloc (.cells #[.int .i64 v] 3)).heap.size) := hide (by have := HS3.out.bel.size; simp; omega)
              go_wp2_with (at_builtin; refine wpList_append_int rfl _ _ rfl w.heap.size _ (M.map Prod.snd) rfl HC1.out w3.heap.size 1 rfl v HC2.out HC3.out HC4.out ?_; intro v' w5 HO5 HG5 HL5; generalize hG : wpList _ _ _ _ _ _ = G)
              obtain ⟨aa5, ca5, hfa, _⟩ := HO5.out.form
              rw [List.length_append, List.length_map, List.length_singleton, ← HMm.out] at hfa
              subst hfa
              have HS5 : Hid (St w z gy' ge' 23 (.slice aa3 (j2 + 1) ca3) (.slice aa5 (j2 + 1) ca5) (putT eqK hfF T k v) (M ++ [(k, v)]) w5) := hide ((HS3.out.appV (below_alloc _ _) HO5.out HG5.out).one (by simp) (by simp))
              have HLn := hide (fun q => len_any (w5.drewN q) (HS5.out.tb.drewN q))
              simp only [hln] at HLn
              subst hG
              clear HC1 HC2 HC3 HC4 HO5 HG5 HL5 HS3 e1 hb3 hln
              go_wp2_with (go_at_call 29; refine (HLn.out 0).mono ?_; rintro e w' ⟨rfl, q2, hw⟩; rw [hw]; clear hw)
              go_roundw
              case rel => exact ⟨_, _, j + 1, gy', ge', _, M ++ [(k, v)], rfl, rfl, by go_num, by omega, HS5.out.drewN _, HR3.out⟩
              case measure => simp [intOf]; omega
          · have hq : q < j2 := by rw [HMm.out]; exact r0
            rw [← HMm.out] at r1
            rw [r1]
            obtain ⟨gv, rfl⟩ := HVG.out (by omega)
            have hqm : q < (M.map Prod.snd).length := by simp; exact r0
            have d3 := HSt.out.vs.at q hqm
            have hx : (M.map Prod.snd)[q]'hqm = (M.getD q (0, 0)).2 := by simp [List.getD_eq_getElem?_getD, List.getElem?_eq_getElem r0]
            rw [hx] at d3
            have hgl := World.block_lt_of_cell? wr _ d3
            obtain ⟨y, hy⟩ : ∃ y, y = (M.getD q (0, 0)).2 := ⟨_, rfl⟩
            rw [← hy] at d3 r3
            simp only [r2, r3] at HGet
            have hq0 : (0 : Int) ≤ (q : Int) := by omega
            have hqi : (q : Int) < (j2 : Int) := by omega
            have HQM := hide hqm
            have HR0 := hide r0
            clear hx hqm r2 r3 r0
            cases oo with
            | true =>
              rcases rel_del HRel.out hfF_eq k HK.out with ⟨s1, _⟩ | ⟨q', s0, s1, s2, s4, s5⟩
              case inl => exfalso; rw [← HMm.out, r1] at s1; omega
              obtain rfl : q' = q := by rw [← HMm.out, r1] at s1; omega
              rw [← hy] at s4
              have HDel := hide (fun q => del_any (wr.drewN q) (HSt.out.tb.drewN q) hash_is HRel.out.inv.ok k HK.out)
              unfold DelC ansV at HDel
              simp only [s2, s4] at HDel
              have HR3 := hide s5
              clear r1 s1 s2 s4 s5 hy
              go_upto_region 25 with (first | (go_at_call 26; refine HGet.out.mono ?_; rintro e w' ⟨rfl, q1, hw⟩; rw [hw]; clear hw) | (go_at_call 27; refine (HDel.out _).mono ?_; rintro e w2 ⟨rfl, hk2⟩; have HK2 := hide hk2; clear hk2))
              obtain ⟨gy', ge', hs'⟩ := (HSt.out.drewN _).table HK2.out
              obtain ⟨gk, rfl⟩ := HKG.out (by omega)
              have HS2 := hide hs'
              clear hs' HK2 HDel HGet HSt d1 d2 d3 hgl
              go_wp2
              go_loopw [13, 14, 15] (fun a b t wr => ∃ (ua ub : Value) (jj : Nat), ua = a ∧ ub = b ∧ t = .int .i64 jj ∧ jj ≤ j2 ∧ OutF w2 wr ua ub (outF M q' jj)) (fun _ _ t _ => j2 - (intOf t).toNat)
              case atStart => exact ⟨_, _, 0, rfl, rfl, rfl, Nat.zero_le _, World.ownsRow_nil _ _ _ _, World.ownsRow_nil _ _ _ _, Below.refl _ _⟩
              case round =>
                obtain ⟨ua, ub, jj, rfl, rfl, rfl, hjj, hS⟩ := hrel
                by_cases hlt3 : jj < j2
                · have hji3 : (jj : Int) < (j2 : Int) := by omega
                  by_cases e : jj = q'
                  · have heq : ((jj : Int) == (q' : Int)) = true := by simp [e]
                    have hne : ((jj : Int) != (q' : Int)) = false := by simp [e]
                    have HS3 : Hid (OutF w2 wr ua ub (outF M q' (jj + 1))) := hide (by unfold outF; rw [if_pos e]; exact hS)
                    have HE := hide e
                    clear hS e
                    go_wp2
                    go_roundw
                    case rel => exact ⟨_, _, jj + 1, rfl, rfl, by go_num, by omega, HS3.out⟩
                    case measure => simp [intOf]; omega
                  · have heq : ((jj : Int) == (q' : Int)) = false := by simp; omega
                    have hne : ((jj : Int) != (q' : Int)) = true := by simp; omega
                    have HE := hide e
                    have hjm : jj < (M.map Prod.fst).length := by simp; rw [← HMm.out]; exact hlt3
                    have hjm2 : jj < (M.map Prod.snd).length := by simp; rw [← HMm.out]; exact hlt3
                    have d := (HS2.out.ks.below hS.bel).at jj hjm
                    have d2 := (HS2.out.vs.below hS.bel).at jj hjm2
                    have d3 := HS2.out.vs.at jj hjm2
                    have hx : (M.map Prod.fst)[jj]'hjm = (M.getD jj (0, 0)).1 := by
                      simp at hjm
                      simp [List.getD_eq_getElem?_getD, List.getElem?_eq_getElem hjm]
                    have hx2 : (M.map Prod.snd)[jj]'hjm2 = (M.getD jj (0, 0)).2 := by
                      simp at hjm2
                      simp [List.getD_eq_getElem?_getD, List.getElem?_eq_getElem hjm2]
                    rw [hx] at d
                    rw [hx2] at d2 d3
                    have HO : Hid (outF M q' (jj + 1) = outF M q' jj ++ [M.getD jj (0, 0)]) := hide (by rw [outF, if_neg e])
                    have hol := outF_len M q' jj
                    obtain ⟨X, hX⟩ : ∃ X, X = M.getD jj (0, 0) := ⟨_, rfl⟩
                    rw [← hX] at d d2 d3 HO
                    obtain ⟨x, y⟩ := X
                    dsimp only at d d2 d3
                    obtain ⟨N, hN⟩ : ∃ N, N = outF M q' jj := ⟨_, rfl⟩
                    rw [← hN] at hS HO hol
                    obtain ⟨aa, ca, hfa, _⟩ := hS.ks.form
                    obtain ⟨ab, cb, hfb, _⟩ := hS.vs.form
                    rw [List.length_map] at hfa hfb
                    subst hfa
                    subst hfb
                    have HS := hide hS
                    have hg1 : gk < wr.heap.size := World.block_lt_of_cell? wr _ d
                    have hg2 : gv < wr.heap.size := World.block_lt_of_cell? wr _ d2
                    have HD3 := hide d3
                    clear hS e hX hN hx hx2 hjm hjm2 d2 d3
                    have HC1 : Hid (OwnsF (wr.alloc (.cells #[.float .f64 x] 51)) w2.heap.size (.slice aa N.length ca) (N.map Prod.fst)) := hide (HS.out.ks.below (below_alloc _ _))
                    have HC2 : Hid ((wr.alloc (.cells #[.float .f64 x] 51)).cell? ⟨wr.heap.size, 0, none⟩ = some (.float .f64 x)) := hide (by rw [(Blk.made wr _ _).cell]; rfl)
                    have HC3 : Hid ((N.map Prod.fst).length + 1 ≤ 17592186044416) := hide (by rw [List.length_map]; omega)
                    have HC4 : Hid (w2.heap.size ≤ (wr.alloc (.cells #[.float .f64 x] 51)).heap.size) := hide (by have := HS.out.bel.size; simp; omega)
                    go_wp2_with (at_builtin; refine wpList_append_flt rfl _ _ rfl w2.heap.size _ (N.map Prod.fst) rfl HC1.out wr.heap.size 1 rfl x HC2.out HC3.out HC4.out ?_; intro v' w3 HO3 HG3 HL3; generalize hG : wpList _ _ _ _ _ _ = G)
                    obtain ⟨aa3, ca3, hfa, _⟩ := HO3.out.form
                    rw [List.length_append, List.length_map, List.length_singleton] at hfa
                    subst hfa
                    have hbA := below_alloc wr (.cells #[.float .f64 x] 51)
                    have HB3 : Hid (Below w2.heap.size w2 w3) := hide (own_below ((HS.out.bel).trans (hbA.mono HS.out.bel.size)) HC1.out HC4.out HG3.out)
                    have HV3 := hide ((HS.out.vs.below hbA).grown HG3.out (fun g e1 e2 => kind_ne (HS.out.vs.below hbA) HC1.out (by decide) g e1 e2.symm))
                    have e2 : w3.cell? ⟨gv, jj, none⟩ = some (.int .i64 y) := (HB3.out.cell (p := ⟨gv, jj, none⟩) (owns_lt HS2.out.vs gv rfl).2).trans HD3.out
                    have HO3' := hide HO3.out
                    have HG3' := hide HG3.out
                    subst hG
                    clear HC1 HC2 HC3 HC4 HO3 HG3 HL3 hbA d hg1
                    have hg3 : gv < w3.heap.size := World.block_lt_of_cell? w3 _ e2
                    have HC1 : Hid (OwnsI (w3.alloc (.cells #[.int .i64 y] 3)) w2.heap.size (.slice ab N.length cb) (N.map Prod.snd)) := hide (HV3.out.below (below_alloc _ _))
                    have HC2 : Hid ((w3.alloc (.cells #[.int .i64 y] 3)).cell? ⟨w3.heap.size, 0, none⟩ = some (.int .i64 y)) := hide (by rw [(Blk.made w3 _ _).cell]; rfl)
                    have HC3 : Hid ((N.map Prod.snd).length + 1 ≤ 17592186044416) := hide (by rw [List.length_map]; omega)
                    have HC4 : Hid (w2.heap.size ≤ (w3.alloc (.cells #[.int .i64 y] 3)).heap.size) := hide (by have := HB3.out.size; simp; omega)
                    go_wp2_with (at_builtin; refine wpList_append_int rfl _ _ rfl w2.heap.size _ (N.map Prod.snd) rfl HC1.out w3.heap.size 1 rfl y HC2.out HC3.out HC4.out ?_; intro v' w5 HO5 HG5 HL5; generalize hG : wpList _ _ _ _ _ _ = G)
                    obtain ⟨ab5, cb5, hfb, _⟩ := HO5.out.form
                    rw [List.length_append, List.length_map, List.length_singleton] at hfb
                    subst hfb
                    have HS5 : Hid (OutF w2 w5 (.slice aa3 (N.length + 1) ca3) (.slice ab5 (N.length + 1) cb5) (outF M q' (jj + 1))) := hide (by
                      rw [HO.out]
                      exact HS.out.app (x := (x, y)) (below_alloc _ _) HO3'.out HG3'.out (below_alloc _ _) HO5.out HG5.out)
                    subst hG
                    clear HC1 HC2 HC3 HC4 HO5 HG5 HL5 HV3 HB3 e2 HO3' HG3' HS
                    go_wp2
                    go_roundw
                    case rel => exact ⟨_, _, jj + 1, rfl, rfl, by go_num, by omega, HS5.out⟩
                    case measure => simp [intOf]; omega
                · have hji3 : ¬ (jj : Int) < (j2 : Int) := by omega
                  obtain rfl : j2 = jj := by omega
                  have HO : outF M q' j2 = M.eraseIdx q' := by rw [outF_is M q' j2 (by rw [HMm.out]; exact Nat.le_refl _), HMm.out, List.take_length]
                  rw [HO] at hS
                  have hS5 := OutF.st HS2.out hS
                  have hln : (delT eqK hfF T k).len = (M.eraseIdx q').length := HR3.out.len
                  obtain ⟨aa, ca, hfa, _⟩ := hS.ks.form
                  obtain ⟨ab, cb, hfb, _⟩ := hS.vs.form
                  rw [List.length_map] at hfa hfb
                  subst hfa
                  subst hfb
                  have HS5 := hide hS5
                  have HLn := hide (fun q => len_any (wr.drewN q) (hS5.tb.drewN q))
                  simp only [hln] at HLn
                  clear hS hS5 HO hln HS2
                  generalize (M.eraseIdx q').length = la at *
                  go_wp2_with (go_at_call 29; refine (HLn.out 0).mono ?_; rintro e w' ⟨rfl, q2, hw⟩; rw [hw]; clear hw)
                  go_roundw
                  case rel => exact ⟨_, _, j + 1, gy', ge', _, M.eraseIdx q', rfl, rfl, by go_num, by omega, HS5.out.drewN _, HR3.out.mono (Nat.le_succ _)⟩
                  case measure => simp [intOf]; omega
            | false =>
              rcases rel_put HRel.out hfF_eq k HK.out v with ⟨s1, _⟩ | ⟨q', s0, s1, s2, s4, s5⟩
              case inl => exfalso; rw [← HMm.out, r1] at s1; omega
              obtain rfl : q' = q := by rw [← HMm.out, r1] at s1; omega
              rw [← hy] at s4
              have HPut := hide (fun q => put_any (wr.drewN q) (HSt.out.tb.drewN q) hash_is HRel.out.inv.ok k v HK.out (grow_ok HRel.out.inv HSt.out.tb.ly (by omega) k v))
              unfold PutC ansV at HPut
              simp only [s2, s4] at HPut
              have hln : (putT eqK hfF T k v).len = j2 := by rw [s5.len, HMm.out]; simp
              have HR3 := hide s5
              clear r1 s1 s2 s4 s5 hy
              go_upto_region 36 with (first | (go_at_call 26; refine HGet.out.mono ?_; rintro e w' ⟨rfl, q1, hw⟩; rw [hw]; clear hw) | (go_at_call 28; refine (HPut.out _).mono ?_; rintro e w2 ⟨rfl, hk2⟩; have HK2 := hide hk2; clear hk2))
              obtain ⟨gy', ge', hs'⟩ := (HSt.out.drewN _).table HK2.out
              have e1 := (hs'.bel.cell (p := ⟨b, o + j * 3 + 1, none⟩) HBL.out).trans HE1.out
              have hb3 := World.block_lt_of_cell? w2 _ e1
              have e3 := hs'.vs.at q' HQM.out
              have hg3 := World.block_lt_of_cell? w2 _ e3
              have f3 := hs'.vs.frozen q'
              have HS4 : Hid (St w z gy' ge' 23 (.slice ak j2 ck) (.slice (some ⟨gv, 0, none⟩) j2 cv) (putT eqK hfF T k v) (M.set q' ((M.getD q' (0, 0)).1, v)) (w2.setCell ⟨gv, q', none⟩ (.int .i64 v))) := hide ((hs'.two.setV q' v).one (by
                rw [List.map_set]
                have hx : (M.getD q' (0, 0)).1 = (M.map Prod.fst)[q']'(by simpa using HR0.out) := by simp [List.getD_eq_getElem?_getD, List.getElem?_eq_getElem HR0.out]
                rw [hx, List.set_getElem_self]) (by rw [List.map_set]))
              clear hs' HK2 HPut HGet HSt d1 d2 d3
              go_upto_region 40 with fail
              refine name_world (fun W => St w z gy' ge' 23 (.slice ak j2 ck) (.slice (some ⟨gv, 0, none⟩) j2 cv) (putT eqK hfF T k v) (M.set q' ((M.getD q' (0, 0)).1, v)) W) HS4.out ?_
              intro W6 hS6
              have HS6 := hide hS6
              have HLn := hide (fun q => len_any (W6.drewN q) (hS6.tb.drewN q))
              simp only [hln] at HLn
              clear hS6 HS4 e1 hb3 e3 hg3 f3 hln
              go_wp2_with (go_at_call 29; refine (HLn.out 0).mono ?_; rintro e w' ⟨rfl, q2, hw⟩; rw [hw]; clear hw)
              go_roundw
              case rel => exact ⟨_, _, j + 1, gy', ge', _, _, rfl, rfl, by go_num, by omega, HS6.out.drewN _, HR3.out⟩
              case measure => simp [intOf]; omega
    · have hji : ¬ (j : Int) < (n : Int) := by omega
      have HB16 : Hid (PfS wr [] ((wr.alloc (.cells #[.int .i64 0] 3)).alloc (.cells #[.int .i64 0] 3))) := hide (by
        refine ⟨(Blk.made wr _ _).alloc _, ?_, (below_alloc wr _).alloc (by simp) _⟩
        have h := Blk.made (wr.alloc (.cells #[.int .i64 0] 3)) #[.int .i64 0] 3
        rw [World.size_alloc] at h
        rw [show wrap64 (sI (List.map Prod.snd ([] : List (Nat × Int)))) = 0 by show wrap64 0 = 0; unfold wrap64; omega]
        exact h)
      clear hlt
      go_upto_region 44 with fail
      refine name_world (fun W => PfS wr [] W) HB16.out ?_
      intro W2 hP2
      have HP2 := hide hP2
      have HA := hide (all_any W2 z)
      have hnn := allNotNil W2.heap.size
      clear HB16 hP2
      go_upto_region 48 with (go_at_call 30; refine HA.out.mono ?_; rintro e w' ⟨rfl, hw⟩; rw [hw]; clear hw; unfold allV)
      have HT6 := hide ((HSt.out.tb.below HP2.out.bel).below (below_alloc W2 (.cells #[.pointer (some ⟨z, 0, none⟩)] 49)))
      have HBx : Hid (Blk (W2.alloc (.cells #[.pointer (some ⟨z, 0, none⟩)] 49)) W2.heap.size #[.pointer (some ⟨z, 0, none⟩)] 49) := hide (Blk.made W2 _ _)
      have HS1 : Hid (PfS wr [] (W2.alloc (.cells #[.pointer (some ⟨z, 0, none⟩)] 49))) := hide (HP2.out.below (below_alloc _ _))
      refine name_world (fun W => TbAt W z gy ge (hvF 23 0 0) T ∧ Blk W W2.heap.size #[.pointer (some ⟨z, 0, none⟩)] 49 ∧ PfS wr [] W) ⟨HT6.out, HBx.out, HS1.out⟩ ?_
      rintro W ⟨hT, hBx, hS⟩
      have HTW := hide hT
      have HBW := hide hBx
      have HSW := hide hS
      clear HT6 HBx HS1 hT hBx hS HA hnn HP2
      generalize W2.heap.size = b6 at *
      refine (wpIn_wide (n := 5)).1 ?_
      refine wpIn_rangeKp rfl (by omega) (gf := 73) (lb := #[.pointer (some ⟨b6, 0, none⟩)]) rfl trivial (enters_of Try.func73 (by kernel_rfl) rfl) (all_fit (5 - 1) W HTW.out b6 HBW.out) (Below.refl _ _) (KeepT.keeping tys) (fun _ => rfl) (fun _ _ _ _ _ _ _ h _ _ => h)
        (fun pre W => PfS wr pre W)
        (fun _ _ _ => False)
        (PfS.ownFrom HSW.out.bel.size)
        (fun _ _ _ _ _ h _ _ => h)
        HSW.out ?round ?done ?stop
      case round =>
        rintro l pre ⟨kx, vx⟩ Wp W1 hS hbW hfit
        have hS1 := hS.below hbW
        have hpl : pre.length + 1 ≤ 8796093022208 := by
          have h1 := hfit.length_le
          have h2 := HRel.out.count
          have h3 := HMm.out
          simp at h1
          omega
        obtain ⟨p, hp⟩ : ∃ p, p = pre.length := ⟨_, rfl⟩
        obtain ⟨S, hSe⟩ : ∃ S, S = wrap64 (sI (pre.map Prod.snd)) := ⟨_, rfl⟩
        have c16 : W1.cell? ⟨wr.heap.size, 0, none⟩ = some (.int .i64 (p : Int)) := by rw [hS1.n.cell, hp]; rfl
        have c17 : W1.cell? ⟨wr.heap.size + 1, 0, none⟩ = some (.int .i64 S) := by rw [hS1.s.cell, hSe]; rfl
        have f16 := hS1.n.frozen 0
        have f17 := hS1.s.frozen 0
        have l16 := hS1.n.lt
        have l17 := hS1.s.lt
        have HN := hide (hS1.next (kx, vx) (c := (p : Int) + 1) (by rw [hp]; rfl))
        rw [← hSe] at HN
        rw [← hp] at hpl
        clear hS hbW hfit hS1 hp hSe
        refine ⟨?a1, ?asg, ?bd⟩
        case asg =>
          intro W0 K hK
          refine asg1 (x1 := .tmp 168) rfl rfl _ W0 K ?_
          exact hK
        case bd =>
          unfold prV
          simp only [List.zip_toArray, List.zip_cons_cons, List.zip_nil_right, List.foldl_toArray, List.foldl_cons, List.foldl_nil, List.setIfInBounds_toArray, List.set_cons_succ, List.set_cons_zero, Act.put, Act.eval]
          gi_wp2
          exact ⟨HN.out.2.2, HN.out.2.1, HN.out.1⟩
      case stop =>
        rintro D c pre W3 hD hS hK
        exact hS.elim
      case done =>
        rintro D xs W3 hD hxs hS hK
        have hxs' : xs = T.prs := hxs
        subst hxs'
        have hcn : T.prs.length = m := by rw [HRel.out.count, HMm.out]
        have HL0 : Hid (LsF wr D m (sI (M.map Prod.snd)) W3) := hide ⟨by have := hS.n; rw [hcn] at this; exact this, by have := hS.s; rw [HRel.out.sum] at this; exact this, hK, hS.bel⟩
        have HD : Hid (wr.heap.size ≤ D) := hide (Nat.le_trans HSW.out.bel.size hD)
        clear hxs hS hK hD hcn HTW HBW HSW
        go_wp2
        go_loopw [21] (fun t w8 => ∃ jj : Nat, t = .int .i64 jj ∧ jj ≤ m ∧ LsF wr D m (sI (M.map Prod.snd) - sI ((M.map Prod.snd).take jj)) w8) (fun t _ => m - (intOf t).toNat)
        case atStart => exact ⟨0, rfl, Nat.zero_le _, by simpa [sI] using HL0.out⟩
        case round =>
          clear HL0
          obtain ⟨jj, rfl, hjj, hL⟩ := hrel
          by_cases hlt3 : jj < m
          · have hji3 : (jj : Int) < (m : Int) := by omega
            obtain ⟨gv, rfl⟩ := HVG.out (by omega)
            have c17 := (hL.s.cell 0).trans (cell0 _)
            have f17 := hL.s.frozen 0
            have l17 := hL.s.lt
            have hjm : jj < (M.map Prod.snd).length := by simp; rw [← HMm.out]; exact hlt3
            have d := (HSt.out.vs.below hL.bel).at jj hjm
            have hgv := World.block_lt_of_cell? _ _ d
            have HN := hide ((hL.drewN 1).next ((M.map Prod.snd)[jj]'hjm))
            rw [show sI (M.map Prod.snd) - sI ((M.map Prod.snd).take jj) - (M.map Prod.snd)[jj]'hjm = sI (M.map Prod.snd) - sI ((M.map Prod.snd).take (jj + 1)) by rw [sI_take _ _ hjm]; omega] at HN
            generalize (M.map Prod.snd)[jj]'hjm = y at *
            generalize wrap64 (sI (M.map Prod.snd) - sI ((M.map Prod.snd).take jj)) = S at *
            clear hL hjm
            go_wp2
            refine wp_region_still_tail 6 (by kernel_rfl) (by kernel_rfl) ?_
            simp only [List.take_succ_cons, List.take_zero, List.drop_succ_cons, List.drop_zero]
            iterate 6 still_step
            refine wpStill_nil ?_
            go_wp2
            go_roundw
            case rel => exact ⟨jj + 1, by go_num, by omega, HN.out⟩
            case measure => simp [intOf]; omega
          · have hji3 : ¬ (jj : Int) < (m : Int) := by omega
            obtain rfl : m = jj := by omega
            rw [List.take_of_length_le (by rw [List.length_map, ← HMm.out]; exact Nat.le_refl _), Int.sub_self] at hL
            have hst := HSt.out.below hL.bel
            have hk7 : (4619567317775286272 : Nat) < 18446744073709551616 := by decide
            have HPut := hide (put_any _ hst.tb hash_is HRel.out.inv.ok 4619567317775286272 1 hk7 (grow_ok HRel.out.inv hst.tb.ly (by omega) _ _))
            obtain ⟨p1, p2⟩ := put_in hfF_eq hk7 seven HRel.out 1
            rw [← HMm.out] at p1
            have HS8 := hide hst
            have HL8 := hide hL
            have HTB := hide HSt.out.tb
            have HDw : Hid (w.heap.size ≤ D) := hide (Nat.le_trans HSt.out.bel.size HD.out)
            have HP2 := hide p2
            unfold PutC ansV at HPut
            generalize valT 0 (stepT hfF T) (seek eqK hfF (stepT hfF T) 4619567317775286272).1 = y at *
            clear hst hL p2 hlt3
            rcases p1 with p1 | ⟨p1, p3⟩
            · simp only [p1] at HPut
              clear p1
              go_upto_region 56 with (go_at_call 28; refine HPut.out.mono ?_; rintro e w5 ⟨rfl, hk5⟩; have HK5 := hide hk5; clear hk5)
              obtain ⟨gy', ge', hs5⟩ := HS8.out.table HK5.out
              obtain ⟨b16, b17, bD⟩ := HL8.out.kept HD.out HTB.out HK5.out.fr
              have HB5 := hide hs5.bel
              have HGet := hide (get_any w5 hs5.tb hash_is 4619567317775286272 hk7)
              have HLn := hide (fun q => len_any (w5.drewN q) (hs5.tb.drewN q))
              simp only [HP2.out] at HGet
              generalize valT 0 (putT eqK hfF T 4619567317775286272 1) (seek eqK hfF (putT eqK hfF T 4619567317775286272 1) 4619567317775286272).1 = y2 at HGet
              have c16 := (b16.cell 0).trans (cell0 _)
              have c17 := (b17.cell 0).trans (cell0 _)
              rw [show wrap64 0 = 0 by unfold wrap64; omega] at c17
              have l16 := b16.lt
              have l17 := b17.lt
              have HBD := hide bD
              clear hs5 b16 b17 bD HK5 HPut HL8 HS8 HTB HP2
              go_wp2_with (first | (go_at_call 26; refine HGet.out.mono ?_; rintro e w6 ⟨rfl, q6, hw⟩; rw [hw]; clear hw) | (go_at_call 29; refine (HLn.out _).mono ?_; rintro e w7 ⟨rfl, q7, hw⟩; rw [hw]; clear hw))
              refine leave1 rfl HBD.out rfl ⟨rfl, below_put (below_dN HB5.out _) D _ HDw.out⟩
            · simp only [p1, Option.isSome_none] at HPut
              clear p1
              go_upto_region 56 with (go_at_call 28; refine HPut.out.mono ?_; rintro e w5 ⟨rfl, hk5⟩; have HK5 := hide hk5; clear hk5)
              obtain ⟨gy', ge', hs5⟩ := HS8.out.table HK5.out
              obtain ⟨b16, b17, bD⟩ := HL8.out.kept HD.out HTB.out HK5.out.fr
              have HB5 := hide hs5.bel
              have HGet := hide (get_any w5 hs5.tb hash_is 4619567317775286272 hk7)
              have HLn := hide (fun q => len_any (w5.drewN q) (hs5.tb.drewN q))
              simp only [HP2.out] at HGet
              generalize valT 0 (putT eqK hfF T 4619567317775286272 1) (seek eqK hfF (putT eqK hfF T 4619567317775286272 1) 4619567317775286272).1 = y2 at HGet
              have c16 := (b16.cell 0).trans (cell0 _)
              have c17 := (b17.cell 0).trans (cell0 _)
              rw [show wrap64 0 = 0 by unfold wrap64; omega] at c17
              have l16 := b16.lt
              have l17 := b17.lt
              have HBD := hide bD
              clear hs5 b16 b17 bD HK5 HPut HL8 HS8 HTB HP2
              simp only [p3] at HLn
              go_wp2_with (first | (go_at_call 26; refine HGet.out.mono ?_; rintro e w6 ⟨rfl, q6, hw⟩; rw [hw]; clear hw) | (go_at_call 29; refine (HLn.out _).mono ?_; rintro e w7 ⟨rfl, q7, hw⟩; rw [hw]; clear hw))
              refine leave1 rfl HBD.out rfl ⟨rfl, below_put (below_dN HB5.out _) D _ HDw.out⟩
end FF
end Go.Proofs.Ytnknjcnbbljagaa
