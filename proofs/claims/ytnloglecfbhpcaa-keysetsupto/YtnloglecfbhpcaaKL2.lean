/- KeySets: untouched; steps. -/
import Derived.Test.YtnloglecfbhpcaaKL1
namespace Go.Proofs.Ytnloglecfbhpcaa
set_option linter.unusedVariables false
set_option linter.unusedSimpArgs false
open Go.RowKit Go.Sort Go.Shelf
set_option maxRecDepth 100000
set_option maxHeartbeats 8000000

theorem own_readQ {W : World} {B g m cap : Nat} {C : List (List UInt8)} (h : OwnQ W B (.slice (some ⟨g, 0, none⟩) m cap) C) (h32 : ∀ x ∈ C, x.length = 32) {i : Nat} {k : List UInt8} (hk : C[i]? = some k) : W.rangeAt g (i * 32) (k.map u8c) := by
  obtain ⟨hi, e⟩ := List.getElem?_eq_some_iff.1 hk
  rw [← e]
  exact h.read h32 i hi
/-- While the row is looked at. -/
structure UnT (w0 w : World) (B g m : Nat) (L : List (List UInt8)) (i : Nat) (W : World) : Prop where
  ex : ∃ C, C.length = m ∧ (∀ j, i ≤ j → C[j]? = L[j]?) ∧ (∀ x ∈ C, x.length = 32) ∧ OwnQ W B (.slice (some ⟨g, 0, none⟩) m m) C
  bel : Below B w0 W
  gr : w.grownBy W (some g)
theorem untouched_any (w0 w : World) (B g n m : Nat) (ao : Option Addr) (c : Nat) (ks : List (List UInt8)) (hn : n = ks.length) (hm : m = n + 9) (hl : n ≤ 4398046511000) (hb : Below B w0 w) (hBw : B ≤ w.heap.size) (hg : B ≤ g) (h32 : ∀ x ∈ ks, x.length = 32) (HR : ∀ W, Below B w0 W → KRow W ao ks) (hO : OwnQ w B (.slice (some ⟨g, 0, none⟩) m m) (markL ks)) :
    Calls Try.prog 26 #[.slice (some ⟨g, 0, none⟩) n m, .slice ao n c] w fun e w' => e = .returned (.bool true) ∧ w.grownBy w' (some g) := by
  have hmi : (n : Int) + 9 = (m : Int) := by omega
  have hmw : IntKind.i64.wrap ((n : Int) + 9) = (m : Int) := by rw [hmi]; simp [IntKind.wrap, IntKind.bits, IntKind.signed]; omega
  have hm2 : m ≤ 4398046511104 := by omega
  have HN := hide hn
  have HM := hide hm
  have HG := hide hg
  have HRR := hide HR
  have HS0 : Hid (UnT w0 w B g m (markL ks) 0 w) := hide ⟨⟨_, by rw [markL_len]; omega, fun _ _ => rfl, markL_32 h32, hO⟩, hb, ⟨rfl, rfl, rfl, Nat.le_refl _, fun _ _ _ => rfl⟩⟩
  have H32 := hide h32
  have HBW := hide hBw
  clear hn hm hb hg HR h32 hO hBw
  go_enter Try.func26, Try.ntmps26
  go_upto_region 3 with fail
  go_loopw [6] (fun t wr => ∃ i : Nat, t = .int .i64 i ∧ i ≤ m ∧ UnT w0 w B g m (markL ks) i wr) (fun t _ => m - (intOf t).toNat)
  case atStart => exact ⟨0, rfl, by omega, HS0.out⟩
  case round =>
    clear HS0
    obtain ⟨i, rfl, hi, hS⟩ := hrel
    obtain ⟨C, h1, h2, h3, h4⟩ := hS.ex
    have HC1 := hide h1
    have HC2 := hide h2
    have HC3 := hide h3
    have HO := hide h4
    have HBel := hide hS.bel
    have HGr := hide hS.gr
    clear hS h1 h2 h3 h4
    by_cases hlt : i < m
    · have hii : (i : Int) < (m : Int) := by omega
      have HIL : Hid (i < C.length) := hide (by rw [HC1.out]; exact hlt)
      have HBs : Hid (B ≤ wr.heap.size) := hide (by have := HGr.out.size; have := HBW.out; omega)
      go_upto_region 5 with fail
      by_cases hin : i < n
      · have hini : (i : Int) < (n : Int) := by omega
        have hnot : ¬ (n : Int) ≤ (i : Int) := by omega
        have hnd : decide ((n : Int) ≤ (i : Int)) = false := decide_eq_false hnot
        have hik : i < ks.length := by rw [← HN.out]; exact hin
        obtain ⟨y, hy⟩ : ∃ y, y = ks[i] := ⟨_, rfl⟩
        obtain ⟨h, o, rfl, hrd⟩ := (HRR.out wr HBel.out).at' i hik
        have hyl : y.length = 32 := by rw [hy]; exact H32.out _ (List.getElem_mem _)
        rw [← hy] at hrd
        have hCy : C[i]? = some y := by rw [HC2.out i (Nat.le_refl _), hy]; exact markL_lo hik
        have HRY := hide (range_regrown hrd)
        have HRC := hide (range_regrown (own_readQ HO.out HC3.out hCy))
        have HY := hide hyl
        clear hrd hyl hy hik hCy
        refine wp_region_quiet_below (by kernel_rfl) (by kernel_rfl) ?_
        iterate 8 quiet_step (fail)
        refine wpQuiet_val (keyV y) rfl (fun w0 hw => ?_) ?_
        · obtain ⟨p0, rfl⟩ := hw
          exact run_loadK rfl rfl HY.out (HRC.out _ _)
        iterate 3 quiet_step (fail)
        refine wpQuiet_val (keyV y) rfl (fun w0 hw => ?_) ?_
        · obtain ⟨p0, rfl⟩ := hw
          exact run_loadK rfl rfl HY.out (HRY.out _ _)
        refine wpQuiet_val (.bool false) rfl (fun w0 _ => (run_neqKK (a := y) (b := y) rfl rfl rfl HY.out HY.out w0).trans (by simp)) ?_
        iterate 6 quiet_step (fail)
        refine wpQuiet_move_nos 38 20 true 8 rfl (fun _ _ => rfl) rfl rfl ((by decide : (38 : Nat) < 55)) ?_ ?_
        · intro x hx
          simp only [List.take_succ_cons, List.take_zero, List.mem_cons, List.not_mem_nil, or_false] at hx
          rcases hx with rfl | rfl | rfl | rfl | rfl | rfl | rfl | rfl <;> exact ⟨rfl, _, rfl, by decide⟩
        simp only [List.take_succ_cons, List.take_zero, List.drop_succ_cons, List.drop_zero, List.foldl_cons, List.foldl_nil, Act.put, List.setIfInBounds_toArray, List.set_cons_zero, List.set_cons_succ]
        quiet_step (fail)
        quiet_step (fail)
        refine wpQuiet_nil ?_
        intro w1 hw1
        have hb1 : RowKit.Below wr.heap.size wr w1 := below_of hw1
        clear HRY HRC
        have HO1 := hide (HO.out.below hb1)
        have HBel1 : Hid (Below B w0 w1) := hide (HBel.out.trans (hb1.mono HBs.out))
        have HGr1 : Hid (w.grownBy w1 (some g)) := hide (grownBy_trans HGr.out (grownBy_below hb1))
        clear hw1 hb1 HO HBel HGr
        have HIL2 := HIL
        go_upto_region 4 with (first | ((with_reducible refine wpList_cvt (.tmp 51) i ?_ ?_ ?_ ?_); rfl; rfl; rfl) | ((with_reducible refine wpList_mk 201 (by decide) (.tmp 52) i ?_ ?_ ?_ ?_); rfl; rfl; rfl) | ((with_reducible refine wpList_storeQ ?_ (.tmp 54) (.tmp 53) ?_ B g m m C HC3.out HO1.out i HIL.out ?_ (mk 201 i) (mk_len _ _) ?_ ?_); rfl; rfl; rfl; rfl; intro w2 HO2 HG2))
        have HE : Hid (UnT w0 w B g m (markL ks) (i + 1) w2) := hide ⟨⟨_, by rw [List.length_set]; exact HC1.out, fun j hj => by rw [List.getElem?_set_ne (by omega)]; exact HC2.out j (by omega), mem_set32 HC3.out (mk_len _ _), HO2.out⟩, HBel1.out.grown HG2.out (by have := HGr1.out.size; have := HBW.out; omega) (fun j hj => by cases hj; exact HG.out), grownBy_trans HGr1.out HG2.out⟩
        clear HO1 HBel1 HGr1 HO2 HG2
        go_wp2
        go_roundw
        case rel => exact ⟨i + 1, by go_num, by omega, HE.out⟩
        case measure => simp [intOf]; omega
      · have hini : ¬ (i : Int) < (n : Int) := by omega
        have hge : (n : Int) ≤ (i : Int) := by omega
        have hCy : C[i]? = some (mk 200 i) := by rw [HC2.out i (Nat.le_refl _)]; exact markL_hi (by rw [← HN.out]; omega) (by rw [← HN.out, ← HM.out]; exact hlt)
        have HRC := hide (range_regrown (own_readQ HO.out HC3.out hCy))
        clear hCy
        refine wp_region_quiet_below (by kernel_rfl) (by kernel_rfl) ?_
        iterate 4 quiet_step (fail)
        refine wpQuiet_move_nos 22 4 true 9 rfl (fun _ _ => rfl) rfl rfl ((by decide : (22 : Nat) < 55)) ?_ ?_
        · intro x hx
          simp only [List.take_succ_cons, List.take_zero, List.mem_cons, List.not_mem_nil, or_false] at hx
          rcases hx with rfl | rfl | rfl | rfl | rfl | rfl | rfl | rfl | rfl <;> exact ⟨rfl, _, rfl, by decide⟩
        simp only [List.take_succ_cons, List.take_zero, List.drop_succ_cons, List.drop_zero, List.foldl_cons, List.foldl_nil, Act.put, List.setIfInBounds_toArray, List.set_cons_zero, List.set_cons_succ]
        iterate 10 quiet_step (fail)
        refine wpQuiet_val (keyV (mk 200 i)) rfl (fun w0 hw => ?_) ?_
        · obtain ⟨p0, rfl⟩ := hw
          exact run_loadK rfl rfl (mk_len _ _) (HRC.out _ _)
        quiet_step (fail)
        refine wpQuiet_val (.int .u8 ((i % 256 : Nat) : Int)) rfl (fun w0 _ => run_cvt rfl rfl w0) ?_
        refine wpQuiet_val (keyV (mk 200 i)) rfl (fun w0 _ => (run_mk 200 rfl rfl rfl w0).trans (by rw [mk_is 200 i (by decide)]; rfl)) ?_
        refine wpQuiet_val (.bool false) rfl (fun w0 _ => (run_neqKK (a := mk 200 i) (b := mk 200 i) rfl rfl rfl (mk_len _ _) (mk_len _ _) w0).trans (by simp)) ?_
        quiet_step (fail)
        quiet_step (fail)
        refine wpQuiet_nil ?_
        intro w1 hw1
        have hb1 : RowKit.Below wr.heap.size wr w1 := below_of hw1
        clear HRC
        have HO1 := hide (HO.out.below hb1)
        have HBel1 : Hid (Below B w0 w1) := hide (HBel.out.trans (hb1.mono HBs.out))
        have HGr1 : Hid (w.grownBy w1 (some g)) := hide (grownBy_trans HGr.out (grownBy_below hb1))
        clear hw1 hb1 HO HBel HGr
        have HIL2 := HIL
        go_upto_region 4 with (first | ((with_reducible refine wpList_cvt (.tmp 51) i ?_ ?_ ?_ ?_); rfl; rfl; rfl) | ((with_reducible refine wpList_mk 201 (by decide) (.tmp 52) i ?_ ?_ ?_ ?_); rfl; rfl; rfl) | ((with_reducible refine wpList_storeQ ?_ (.tmp 54) (.tmp 53) ?_ B g m m C HC3.out HO1.out i HIL.out ?_ (mk 201 i) (mk_len _ _) ?_ ?_); rfl; rfl; rfl; rfl; intro w2 HO2 HG2))
        have HE : Hid (UnT w0 w B g m (markL ks) (i + 1) w2) := hide ⟨⟨_, by rw [List.length_set]; exact HC1.out, fun j hj => by rw [List.getElem?_set_ne (by omega)]; exact HC2.out j (by omega), mem_set32 HC3.out (mk_len _ _), HO2.out⟩, HBel1.out.grown HG2.out (by have := HGr1.out.size; have := HBW.out; omega) (fun j hj => by cases hj; exact HG.out), grownBy_trans HGr1.out HG2.out⟩
        clear HO1 HBel1 HGr1 HO2 HG2
        go_wp2
        go_roundw
        case rel => exact ⟨i + 1, by go_num, by omega, HE.out⟩
        case measure => simp [intOf]; omega
    · have hii : ¬ (i : Int) < (m : Int) := by omega
      go_wp2
      go_ret
      exact ⟨rfl, HGr.out⟩
/-- A step. -/
structure SK where
  kd : Int
  on : Int
  wi : Int
  key : List UInt8
  ao : Option Addr
  kn : Nat
  kc : Nat
  ks : List (List UInt8)
  any : Bool
  pre : List UInt8
def skC (s : SK) : List Value := .int .i64 s.kd :: .int .i64 s.on :: .int .i64 s.wi :: (s.key.map u8c ++ [.slice s.ao s.kn s.kc, .bool s.any, .string ⟨s.pre.toArray⟩])
def skA (s : SK) : Array Value := (skC s).toArray
def skV (s : SK) : Value := .agg (skA s)
/-- A step that came in: its keys lie in a world that is not written over. -/
structure SkOk (TK : List (List UInt8)) (w0 : World) (N : Nat) (s : SK) : Prop where
  k32 : s.key.length = 32
  kn : s.kn = s.ks.length
  kl : s.kn ≤ 2097152
  pl : s.pre.length ≤ 9223372036854775807
  row : ∀ W, Below N w0 W → KRow W s.ao s.ks
  inK : s.key ∈ TK
  inS : ∀ x ∈ s.ks, x ∈ TK
abbrev SKB (w : World) (b : Nat) (s : SK) : Prop := Blk w b (skA s) SPT
section
variable {w : World} {b : Nat} {s : SK}
theorem skC_len (h : s.key.length = 32) : (skC s).length = 38 := by simp [skC, h]
theorem sk_cell (hb : SKB w b s) (j : Nat) : w.cell? ⟨b, j, none⟩ = (skC s)[j]? := by rw [Blk.cell hb, skA, List.getElem?_toArray]
theorem sk_kd (hb : SKB w b s) : w.cell? ⟨b, 0, none⟩ = some (.int .i64 s.kd) := sk_cell hb 0
theorem sk_on (hb : SKB w b s) : w.cell? ⟨b, 1, none⟩ = some (.int .i64 s.on) := sk_cell hb 1
theorem sk_wi (hb : SKB w b s) : w.cell? ⟨b, 2, none⟩ = some (.int .i64 s.wi) := sk_cell hb 2
theorem sk_key (hb : SKB w b s) : w.rangeAt b 3 (s.key.map u8c) := fun j v hj => by
  rw [sk_cell hb, skC, show 3 + j = j + 1 + 1 + 1 by omega, List.getElem?_cons_succ, List.getElem?_cons_succ, List.getElem?_cons_succ, List.getElem?_append_left (List.getElem?_eq_some_iff.1 hj).1]
  exact hj
theorem sk_tail (hb : SKB w b s) (h : s.key.length = 32) (j : Nat) : w.cell? ⟨b, 35 + j, none⟩ = ([.slice s.ao s.kn s.kc, .bool s.any, .string ⟨s.pre.toArray⟩] : List Value)[j]? := by
  rw [sk_cell hb, skC, show 35 + j = (32 + j) + 1 + 1 + 1 by omega, List.getElem?_cons_succ, List.getElem?_cons_succ, List.getElem?_cons_succ, List.getElem?_append_right (by simp [h]), List.length_map, h, show 32 + j - 32 = j by omega]
theorem sk_ks (hb : SKB w b s) (h : s.key.length = 32) : w.cell? ⟨b, 35, none⟩ = some (.slice s.ao s.kn s.kc) := sk_tail hb h 0
theorem sk_any (hb : SKB w b s) (h : s.key.length = 32) : w.cell? ⟨b, 36, none⟩ = some (.bool s.any) := sk_tail hb h 1
theorem sk_pre (hb : SKB w b s) (h : s.key.length = 32) : w.cell? ⟨b, 37, none⟩ = some (.string ⟨s.pre.toArray⟩) := sk_tail hb h 2
end
end Go.Proofs.Ytnloglecfbhpcaa
