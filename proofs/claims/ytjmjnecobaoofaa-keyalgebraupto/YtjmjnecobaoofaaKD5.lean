/- KeyDigits, walked. -/
import Derived.Test.YtjmjnecobaoofaaKD4
namespace Go.Proofs.Ytjmjnecobaoofaa
set_option linter.unusedVariables false
set_option linter.unusedSimpArgs false
open Go.RowKit

theorem less_cmp : ∀ x y : List UInt8, Op.bytesLess x y = (cmpK x y == -1)
  | [], [] => rfl
  | [], _ :: _ => rfl
  | _ :: _, [] => rfl
  | a :: xs, b :: ys => by
    have ha : a < b ↔ a.toNat < b.toNat := UInt8.lt_iff_toNat_lt
    have hb : b < a ↔ b.toNat < a.toNat := UInt8.lt_iff_toNat_lt
    rw [cmpK_cons, Op.bytesLess, less_cmp xs ys]
    by_cases h1 : a < b
    · simp [h1]
    · by_cases h2 : b < a
      · have : ¬ a = b := fun e => by rw [e] at h2; exact UInt8.lt_irrefl b h2
        simp [h1, h2, this]
      · have : a = b := UInt8.toNat_inj.1 (by rw [ha] at h1; rw [hb] at h2; omega)
        subst this
        simp [h1]
theorem less_hex (a b : List UInt8) : Op.bytesLess (hexOf a) (hexOf b) = (cmpK a b == -1) := by rw [less_cmp, cmpK_hex]
theorem eq_hex (a b : List UInt8) : (hexOf a == hexOf b) = (cmpK a b == 0) := by
  rw [← cmpK_hex]
  by_cases h : hexOf a = hexOf b
  · rw [h, cmpK_self, beq_self_eq_true]; rfl
  · have : cmpK (hexOf a) (hexOf b) ≠ 0 := fun e => h (cmpK_zero _ _ e)
    rw [beq_eq_false_iff_ne.2 h, beq_eq_false_iff_ne.2 this]
def askL (vb : Value) (t a b : List UInt8) : List Value := vb :: .string ⟨t.toArray⟩ :: (a.map u8c ++ b.map u8c)
/-- What is asked, in memory. -/
structure AskAt (w : World) (z : Nat) (vb : Value) (t a b : List UInt8) : Prop where
  blk : Blk w z (askL vb t a b).toArray 26
  al : a.length = 32
  bl : b.length = 32
theorem AskAt.below {w w' : World} {z : Nat} {vb : Value} {t a b : List UInt8} (h : AskAt w z vb t a b) (hb : Below w.heap.size w w') : AskAt w' z vb t a b := ⟨h.blk.below hb h.blk.lt, h.al, h.bl⟩
theorem AskAt.text {w : World} {z : Nat} {vb : Value} {t a b : List UInt8} (h : AskAt w z vb t a b) : w.cell? ⟨z, 1, none⟩ = some (.string ⟨t.toArray⟩) := by rw [h.blk.cell]; rfl
theorem AskAt.bytes {w : World} {z : Nat} {vb : Value} {t a b : List UInt8} (h : AskAt w z vb t a b) : w.cell? ⟨z, 0, none⟩ = some vb := by rw [h.blk.cell]; rfl
theorem AskAt.ra {w : World} {z : Nat} {vb : Value} {t a b : List UInt8} (h : AskAt w z vb t a b) : w.rangeAt z 2 (a.map u8c) := fun j v hj => by
  rw [h.blk.cell, ← hj]
  have hjl : j < (a.map u8c).length := (List.getElem?_eq_some_iff.1 hj).1
  unfold askL
  rw [List.getElem?_toArray, show 2 + j = j + 1 + 1 by omega, List.getElem?_cons_succ, List.getElem?_cons_succ, List.getElem?_append_left hjl]
theorem AskAt.rb {w : World} {z : Nat} {vb : Value} {t a b : List UInt8} (h : AskAt w z vb t a b) : w.rangeAt z 34 (b.map u8c) := fun j v hj => by
  rw [h.blk.cell, ← hj]
  have hl : (a.map u8c).length = 32 := by rw [List.length_map, h.al]
  unfold askL
  rw [List.getElem?_toArray, show 34 + j = (32 + j) + 1 + 1 by omega, List.getElem?_cons_succ, List.getElem?_cons_succ, List.getElem?_append_right (by omega), hl, show 32 + j - 32 = j by omega]
theorem loadAt_key {w : World} {z o : Nat} {bs : List UInt8} (hl : bs.length = 32) (hc : w.rangeAt z o (bs.map u8c)) : (Instr.loadAt 24 (.pointer (some ⟨z, o, none⟩))).run Try.prog w = .ok (keyV bs) w := by
  have := run_loadVar_mid (P := Try.prog) w z o 24 (bs.map u8c) _ hc Try.underlying24 rfl (by rw [List.length_map, hl]; exact infoKey)
  simp only [Instr.loadAt, Instr.sureAddr, Sem.run_bind, Sem.run_pure, Result.andThen_ok]
  exact this
theorem wpList_load_keyAt {ops : Array Oper} {rest : List Oper} {op : Oper} {a : Act} {w : World} {Q : Exit → Act → World → Prop} (x : Operand)
    (z o : Nat) (bs : List UInt8) (hl : bs.length = 32) (hc : w.rangeAt z o (bs.map u8c)) (ho : op.op = .load 24 x) (hx : a.eval x = .pointer (some ⟨z, o, none⟩)) (hg : Region.wanted op (yielded ops a.tmps) = true)
    (h : wpList Try.prog ops Q rest (a.put op.dst (keyV bs)) w) : wpList Try.prog ops Q (op :: rest) a w :=
  wpList_val _ hg (run_load ho hx (loadAt_key hl hc)) h
theorem loadAt_str {w : World} {z o : Nat} {t : ByteArray} (hc : w.cell? ⟨z, o, none⟩ = some (.string t)) : (Instr.loadAt 9 (.pointer (some ⟨z, o, none⟩))).run Try.prog w = .ok (.string t) w := by
  have := Try.underlying9
  simp [Instr.loadAt, Instr.sureAddr, go_sem, hc, this]
def askV (vb : Value) (t a b : List UInt8) : Value := .agg (askL vb t a b).toArray
set_option maxRecDepth 20000 in
set_option maxHeartbeats 2000000 in
theorem digits_law (w : World) (vb : Value) (t a b : List UInt8) (ha : a.length = 32) (hb : b.length = 32) (ht : t.length ≤ 9223372036854775807) : Calls Try.prog 3 #[askV vb t a b] w fun e w' => e = .returned (.bool true) ∧ Below w.heap.size w w' := by
  unfold askV
  have HA : Hid (AskAt (w.alloc (.cells (askL vb t a b).toArray 26)) w.heap.size vb t a b) := hide ⟨Blk.made w _ _, ha, hb⟩
  have HW : Hid (Below w.heap.size w (w.alloc (.cells (askL vb t a b).toArray 26))) := hide ((Below.refl _ _).alloc (Nat.le_refl _) _)
  have HA1 := hide ha
  have HB1 := hide hb
  clear ha hb
  go_enter Try.func3, Try.ntmps3
  go_wp2_with ((with_reducible refine wpList_load_keyAt (.tmp 8) w.heap.size 2 a HA1.out HA.out.ra ?_ ?_ ?_ ?_); rfl; rfl; rfl)
  refine (hex_any a HA1.out _).mono ?_
  rintro e w1 ⟨rfl, hb1⟩
  have HA2 := hide (HA.out.below hb1)
  have HW1 := hide (HW.out.trans (hb1.mono HW.out.size))
  clear HA HW hb1
  go_wp2_with ((with_reducible refine wpList_load_keyAt (.tmp 11) w.heap.size 34 b HB1.out HA2.out.rb ?_ ?_ ?_ ?_); rfl; rfl; rfl)
  refine (hex_any b HB1.out _).mono ?_
  rintro e w2 ⟨rfl, hb2⟩
  have HA3 := hide (HA2.out.below hb2)
  have HW2 := hide (HW1.out.trans (hb2.mono HW1.out.size))
  clear HA2 HW1 hb2
  go_wp2_with fail
  refine (parse_any (hexOf a) (by rw [hexOf_len, HA1.out]; decide) w2).mono ?_
  rintro e w3 ⟨rfl, hb3⟩
  rw [parseK_hex a HA1.out, parseE_hex a HA1.out]
  have HA4 := hide (HA3.out.below hb3)
  have HW3 := hide (HW2.out.trans (hb3.mono HW2.out.size))
  have hzk := zero_key
  have hlh : (hexOf a).length = 64 := by rw [hexOf_len, HA1.out]
  clear HA3 HW2 hb3
  have hg1 := keyGuard .neq a
  have hn1 := keyNeq a HA1.out
  go_wp2_with (first | ((with_reducible refine wpList_put_key ?_ (.tmp 5) (.tmp 17) ?_ w3.heap.size ?_ w3 ?_ ?_ a HA1.out ?_ ?_); rfl; rfl; rfl; rfl; rfl; rfl; intro w4 HK4 hb4; have HA5 := hide (HA4.out.below hb4)) | ((with_reducible refine wpList_key (.tmp 5) w3.heap.size a HK4.out ?_ ?_ ?_ ?_); rfl; rfl; rfl) | ((with_reducible refine wpList_load_keyAt (.tmp 23) w.heap.size 2 a HA1.out HA5.out.ra ?_ ?_ ?_ ?_); rfl; rfl; rfl) | ((with_reducible refine wpList_load_keyAt (.tmp 32) w.heap.size 2 a HA1.out HA5.out.ra ?_ ?_ ?_ ?_); rfl; rfl; rfl) | ((with_reducible refine wpList_load_keyAt (.tmp 34) w.heap.size 34 b HB1.out HA5.out.rb ?_ ?_ ?_ ?_); rfl; rfl; rfl))
  refine (compare_any a b HA1.out HB1.out w4).mono ?_
  rintro e w5 ⟨rfl, hb5⟩
  have HK5 := hide (HK4.out.below hb5)
  have HA6 := hide (HA5.out.below hb5)
  have HW5 := hide ((HW3.out.trans (hb4.mono HW3.out.size)).trans (hb5.mono (HW3.out.trans (hb4.mono HW3.out.size)).size))
  obtain ⟨z, hz⟩ : ∃ z, z = w3.heap.size := ⟨_, rfl⟩
  have HZ : Hid (w.heap.size < z) := hide (by rw [hz]; exact HA4.out.blk.lt)
  rw [← hz] at HK5 ⊢
  clear HK4 HA5 hb4 hb5 HA4 HW3 hg1 hn1 hz
  have hcr := cmpK_range a b
  have hL := less_hex a b
  have hE := eq_hex a b
  have hcn := cmpK_neg a b
  generalize hcc : cmpK a b = c at hcr hL hE hcn ⊢
  have hM : (!(c == -1) && !(c == 0)) = (c == 1) := by rcases hcr with rfl | rfl | rfl <;> rfl
  have hN : IntKind.i64.wrap (-c) = -c := by rcases hcr with rfl | rfl | rfl <;> rfl
  have HC2 : Hid (Calls Try.prog 8 #[keyV b, keyV a] w5 fun e w' => e = .returned (.int .i64 (-c)) ∧ Below w5.heap.size w5 w') := hide (hcn ▸ compare_any b a HB1.out HA1.out w5)
  clear hcr hcc hcn
  go_wp2_with (first | ((with_reducible refine wpList_load_keyAt (.tmp 60) w.heap.size 34 b HB1.out HA6.out.rb ?_ ?_ ?_ ?_); rfl; rfl; rfl) | ((with_reducible refine wpList_load_keyAt (.tmp 62) w.heap.size 2 a HA1.out HA6.out.ra ?_ ?_ ?_ ?_); rfl; rfl; rfl))
  refine HC2.out.mono ?_
  rintro e w6 ⟨rfl, hb6⟩
  have HK6 := hide (HK5.out.below hb6)
  have HA7 := hide (HA6.out.below hb6)
  have HW6 := hide (HW5.out.trans (hb6.mono HW5.out.size))
  have ct := HA7.out.text
  clear HK5 HA6 HW5 hb6 HC2
  go_wp2_with fail
  refine (parse_any t ht w6).mono ?_
  rintro e w7 ⟨rfl, hb7⟩
  have HK7 := hide (HK6.out.below hb7).1
  have HA8 := hide (HA7.out.below hb7)
  have HW7 := hide (HW6.out.trans (hb7.mono HW6.out.size))
  have HKS : Hid ((a.map u8c).toArray.size = 32) := hide (by simp [HA1.out])
  have HPL := hide (parseK_len t)
  have HPS : Hid (((parseK t).map u8c).toArray.size = 32) := hide (by simp [parseK_len t])
  have HP1 := hide (all_oneCell_toArray (u8c_one (parseK t)))
  have hzw : Hid (w.heap.size < z) := HZ
  clear HK6 HA7 HW6 hb7 ct hL hE hM hN
  by_cases he : parseE t = 0
  · have HHP := hide (hex_parse t he)
    rw [he]
    generalize parseK t = k at HPL HPS HP1 HHP ⊢
    clear he
    go_wp2_with ((with_reducible refine wpList_store_blk ?_ 24 (.tmp 5) (.tmp 73) ?_ z 32 (a.map u8c).toArray (k.map u8c).toArray 24 HPS.out HKS.out ?_ ?_ HK7.out infoKey HP1.out ?_); rfl; rfl; rfl; rfl; intro w8 hk8 hg8)
    have HK8 : Hid (KeyAt w8 z k) := hide ⟨hk8, HPL.out⟩
    have HA9 : Hid (AskAt w8 w.heap.size vb t a b) := hide ⟨HA8.out.blk.grown hg8 (fun e => by have := Option.some.inj e; have := HZ.out; omega), HA8.out.al, HA8.out.bl⟩
    have HW8 := hide (HW7.out.trans (below_grownBy hg8 (Nat.le_of_lt HZ.out) HW7.out.size))
    have HC := hide (fun d os => hex_any k HPL.out (Sort.grow (redrawn w8 d) os))
    have HML := hide (fun d os => (HK8.out.below (below_regrown w8 d os)).load)
    have hct := fun d os => (HA9.out.below (below_regrown w8 d os)).text
    have HTX := hide (fun d os => (loadAt_str (hct d os)))
    rw [HHP.out] at HC
    clear hk8 hg8 hct HA8 HW7 HK7
    refine wp_region_quiet_below (by kernel_rfl) (by kernel_rfl) ?_
    refine wpQuiet_val (keyV k) rfl (fun w hw => ?_) ?_
    · obtain ⟨p, rfl⟩ := hw
      exact run_load rfl rfl (HML.out _ _)
    quiet_step (exact Calls.regrown_of (HC.out _ _))
    quiet_step (fail)
    refine wpQuiet_val (.string ⟨t.toArray⟩) rfl (fun w hw => ?_) ?_
    · obtain ⟨p, rfl⟩ := hw
      exact run_load rfl rfl (HTX.out _ _)
    quiet_step (fail)
    quiet_step (fail)
    refine wpQuiet_nil ?_
    intro _ hw'
    obtain ⟨⟨dq, osq⟩, hw''⟩ := hw'
    subst hw''
    go_wp2
    go_ret
    exact ⟨rfl, HW8.out.trans ((below_regrown _ dq osq).mono HW8.out.size)⟩
  · have HHP := hide (parseK_bad t he)
    obtain ⟨m, hm⟩ : ∃ m, m = parseE t := ⟨_, rfl⟩
    rw [← hm] at he ⊢
    clear hm
    generalize parseK t = k at HPL HPS HP1 HHP ⊢
    have HKZ : Hid (keyV k = .agg keyZ) := hide (by rw [HHP.out]; rfl)
    have hbz := keyGuard .eql k
    have hez := keyEql k HPL.out
    have hm0 : (m == 0) = false := by simpa using he
    rw [HKZ.out] at hbz hez
    go_wp2_with (first | ((with_reducible refine wpList_store_blk ?_ 24 (.tmp 5) (.tmp 73) ?_ z 32 (a.map u8c).toArray (k.map u8c).toArray 24 HPS.out HKS.out ?_ ?_ HK7.out infoKey HP1.out ?_); rfl; rfl; rfl; rfl; intro w8 hk8 hg8; have HK8 : Hid (KeyAt w8 z k) := hide ⟨hk8, HPL.out⟩; have HW8 := hide (HW7.out.trans (below_grownBy hg8 (Nat.le_of_lt HZ.out) HW7.out.size))) | ((with_reducible refine wpList_key (.tmp 5) z k HK8.out ?_ ?_ ?_ ?_); rfl; rfl; rfl; rw [HKZ.out]))
    go_ret
    exact ⟨rfl, HW8.out⟩
end Go.Proofs.Ytjmjnecobaoofaa
