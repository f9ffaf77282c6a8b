/- A table's array in memory: way, find. -/
import Derived.Test.YtnknjcnbbljagaaGE0
import Derived.Test.YtnknjcnbbljagaaTA0
namespace Go.Proofs.Ytnknjcnbbljagaa
set_option linter.unusedVariables false
set_option linter.unusedSimpArgs false
set_option maxRecDepth 100000
open Go.RowKit

abbrev KT := Int
def kc (k : Int) : Value := .int .i64 k
def kz : Value := .int .i64 0
def vc (v : Int) : Value := .int .i64 v
abbrev SL := Slt Int Int
def kS : SL → Value
  | .ful k _ => .int .i64 k
  | .emp => .int .i64 0
  | .tmb => .int .i64 0
def vS : SL → Value
  | .ful _ v => .int .i64 v
  | .emp => .int .i64 0
  | .tmb => .int .i64 0
def eqK (a b : Int) : Bool := a == b
/-- A row of slots. -/
structure RowAt (w : World) (g : Nat) (L : List SL) : Prop where
  row : ∃ cur, Blk w g cur 150 ∧ cur.size = L.length * 3
  c0 : ∀ p, p < L.length → w.cell? ⟨g, p * 3, none⟩ = some (.int .u8 ((sat L p).st : Int))
  c1 : ∀ p, p < L.length → w.cell? ⟨g, p * 3 + 1, none⟩ = some (kS (sat L p))
  c2 : ∀ p, p < L.length → w.cell? ⟨g, p * 3 + 2, none⟩ = some (vS (sat L p))
theorem RowAt.lt {w : World} {g : Nat} {L : List SL} (h : RowAt w g L) : g < w.heap.size := by
  obtain ⟨cur, hb, _⟩ := h.row
  exact hb.lt
theorem wrap_is (x : Int) : wrap64 x = IntKind.i64.wrap x := by
  unfold wrap64
  simp [IntKind.wrap, IntKind.bits, IntKind.signed]
  split <;> omega
theorem way_num (h i n a : Nat) (ha : a ≤ 43) (hn : n = 2 ^ a) : IntKind.i64.wrap ((IntKind.u64.wrap ((h : Int) + (i : Int))).tmod (n : Int)) = (((h + i) % n : Nat) : Int) := by
  have hn2 : n ≤ 8796093022208 := by rw [hn]; exact Nat.pow_le_pow_right (by decide) ha
  have e1 : IntKind.u64.wrap ((h : Int) + (i : Int)) = (((h + i) % 18446744073709551616 : Nat) : Int) := by
    simp [IntKind.wrap, IntKind.bits, IntKind.signed]
  have hd : n ∣ 18446744073709551616 := by
    rw [hn, show (18446744073709551616 : Nat) = 2 ^ 64 from rfl]
    exact Nat.pow_dvd_pow 2 (by omega)
  have hn0 : 0 < n := by rw [hn]; exact Nat.pow_pos (by decide)
  have hm : (h + i) % n < n := Nat.mod_lt _ hn0
  rw [e1, ← Int.ofNat_tmod, Nat.mod_mod_of_dvd _ hd]
  exact wrapi64_nat _ (by omega)
theorem way_any (w : World) (z o n : Nat) (ga : Option Addr) (h i : Nat) (c0 : w.cell? ⟨z, o, none⟩ = some (.slice ga n n)) (a : Nat) (ha : a ≤ 43) (hn : n = 2 ^ a) (hh : h < 18446744073709551616) (hi : i < n) :
    Calls Try.prog 99 #[.pointer (some ⟨z, o, none⟩), .int .u64 (h : Int), .int .i64 (i : Int)] w fun e w' => e = .returned (.int .i64 (((h + i) % n : Nat) : Int)) ∧ w' = w := by
  have hn2 : n ≤ 8796093022208 := by rw [hn]; exact Nat.pow_le_pow_right (by decide) ha
  have HN := hide hn
  have hn0 : 0 < n := by omega
  have hi2 : i ≤ 8796093022208 := by omega
  clear hn
  go_enter Try.func99, Try.ntmps99
  go_wp2
  have e : IntKind.i64.wrap ((IntKind.u64.wrap ((h : Int) + (i : Int))).tmod (n : Int)) = (((h + i) % n : Nat) : Int) := way_num h i n a ha HN.out
  have e' : wrap64 ((IntKind.u64.wrap ((h : Int) + (i : Int))).tmod (n : Int)) = (((h + i) % n : Nat) : Int) := (wrap_is _).trans e
  rw [e']
  go_ret
  exact ⟨rfl, rfl⟩
def fndV (r : Option Nat × Nat) : Value := .tuple #[.int .i64 ((r.1.getD 0 : Nat) : Int), .int .i64 (r.2 : Int), .bool r.1.isSome]
theorem find_any (w : World) (z o n g : Nat) (L : List SL) (h : Nat) (k : Int) (c0 : w.cell? ⟨z, o, none⟩ = some (.slice (some ⟨g, 0, none⟩) n n)) (hL : L.length = n) (hr : RowAt w g L) (a : Nat) (ha : a ≤ 43) (hn : n = 2 ^ a) (hh : h < 18446744073709551616) :
    Calls Try.prog 89 #[.pointer (some ⟨z, o, none⟩), .int .u64 (h : Int), .int .i64 k] w fun e w' => e = .returned (fndV (find eqK L h k)) ∧ ∃ q, w' = w.drewN q := by
  have hn2 : n ≤ 8796093022208 := by rw [hn]; exact Nat.pow_le_pow_right (by decide) ha
  have HW := hide (fun i hi => way_any w z o n (some ⟨g, 0, none⟩) h i c0 a ha hn hh hi)
  have hg := hr.lt
  have hz := World.block_lt_of_cell? w _ c0
  have HR := hide hr
  have HL := hide hL
  clear hn ha hr hL
  go_enter Try.func89, Try.ntmps89
  go_wp2
  go_loop [15] (fun t => ∃ j : Nat, t = .int .i64 j ∧ j ≤ n ∧ Hid (find eqK L h k = fnd eqK L h k (n - j) j)) (fun t => n - (intOf t).toNat)
  case atStart => exact ⟨0, rfl, Nat.zero_le _, hide (by unfold find; rw [HL.out]; rfl)⟩
  case round =>
    obtain ⟨j, rfl, hj, hq⟩ := hrel
    by_cases hlt : j < n
    · have hji : (j : Int) < (n : Int) := by omega
      have hpl : (h + j) % n < n := Nat.mod_lt _ (by omega)
      have HWj := hide (HW.out j hlt)
      have HQ : Hid (find eqK L h k = fnd eqK L h k (n - (j + 1) + 1) j) := hide (by rw [hq.out, show n - j = (n - (j + 1)) + 1 by omega])
      obtain ⟨p, hp⟩ : ∃ p, p = (h + j) % n := ⟨_, rfl⟩
      have HP : Hid ((h + j) % L.length = p) := hide (by rw [HL.out, hp])
      rw [← hp] at hpl HWj
      have d0 := HR.out.c0 p (by rw [HL.out]; exact hpl)
      have d1 := HR.out.c1 p (by rw [HL.out]; exact hpl)
      have hpi : (p : Int) < (n : Int) := by omega
      clear hq hp
      cases hs : sat L p with
      | emp =>
        rw [hs] at d0 d1
        have HF : Hid (find eqK L h k = (none, j + 1)) := hide (by rw [HQ.out]; exact fnd_emp (by rw [HP.out]; exact hs))
        have e0 : (((Slt.emp : SL).st : Nat) : Int) = 0 := rfl
        rw [e0] at d0
        clear hs HQ e0
        go_wp2_with (go_at_call 99; refine HWj.out.mono ?_; rintro e w' ⟨rfl, hw⟩; rw [hw]; clear hw)
        go_ret3
        exact ⟨by rw [HF.out]; rfl, 0, rfl⟩
      | tmb =>
        rw [hs] at d0 d1
        have HF : Hid (find eqK L h k = fnd eqK L h k (n - (j + 1)) (j + 1)) := hide (by rw [HQ.out]; exact fnd_tmb (by rw [HP.out]; exact hs))
        have e0 : (((Slt.tmb : SL).st : Nat) : Int) = 2 := rfl
        rw [e0] at d0
        clear hs HQ e0
        go_wp2_with (go_at_call 99; refine HWj.out.mono ?_; rintro e w' ⟨rfl, hw⟩; rw [hw]; clear hw)
        go_round
        case rel => exact ⟨j + 1, by go_num, by omega, HF⟩
        case measure => simp [intOf]; omega
      | ful k' v' =>
        rw [hs] at d0 d1
        have e0 : (((Slt.ful k' v' : SL).st : Nat) : Int) = 1 := rfl
        have e1 : kS (Slt.ful k' v') = .int .i64 k' := rfl
        rw [e0] at d0
        rw [e1] at d1
        cases he : eqK k' k with
        | true =>
          have HF : Hid (find eqK L h k = (some p, j + 1)) := hide (by rw [HQ.out, fnd_yes (by rw [HP.out]; exact hs) he, HP.out])
          have hb : (k' == k) = true := he
          clear hs HQ e0 e1 he
          go_wp2_with (go_at_call 99; refine HWj.out.mono ?_; rintro e w' ⟨rfl, hw⟩; rw [hw]; clear hw)
          go_ret3
          exact ⟨by rw [HF.out]; rfl, 0, rfl⟩
        | false =>
          have HF : Hid (find eqK L h k = fnd eqK L h k (n - (j + 1)) (j + 1)) := hide (by rw [HQ.out]; exact fnd_no (by rw [HP.out]; exact hs) he)
          have hb : (k' == k) = false := he
          clear hs HQ e0 e1 he
          go_wp2_with (go_at_call 99; refine HWj.out.mono ?_; rintro e w' ⟨rfl, hw⟩; rw [hw]; clear hw)
          go_round
          case rel => exact ⟨j + 1, by go_num, by omega, HF⟩
          case measure => simp [intOf]; omega
    · have hji : ¬ (j : Int) < (n : Int) := by omega
      have HF : Hid (find eqK L h k = (none, n)) := hide (by rw [hq.out, show j = n by omega, Nat.sub_self]; rfl)
      go_upto_region 12 with fail
      go_quiet (fail)
      go_wp2
      go_ret3
      exact ⟨by rw [HF.out]; rfl, _, rfl⟩
end Go.Proofs.Ytnknjcnbbljagaa
