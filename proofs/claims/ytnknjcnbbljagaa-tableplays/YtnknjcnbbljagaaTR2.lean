/- The document's table in memory: its block; count, Len, Cap, Tombs, Left. -/
import Derived.Test.YtnknjcnbbljagaaTR1
namespace Go.Proofs.Ytnknjcnbbljagaa
set_option linter.unusedVariables false
set_option linter.unusedSimpArgs false
namespace RR
set_option maxRecDepth 100000
open Go.RowKit

def oldV (ge n : Nat) : Value := if n = 0 then .slice none 0 0 else .slice (some ⟨ge, 0, none⟩) n n
def tbR (ti ma : Int) (gy ge ny ne m : Nat) : Array Value := #[.int .i64 ti, .int .i64 ma, .slice (some ⟨gy, 0, none⟩) ny ny, oldV ge ne, .bool (decide (ne ≠ 0)), .int .i64 (m : Int)]
/-- The document's table. -/
structure TbR (w : World) (z gy ge : Nat) (ti ma : Int) (T : TR) : Prop where
  blk : Blk w z (tbR ti ma gy ge T.y.length T.e.length T.m) 98
  ry : RowR w gy T.y
  re : T.e.length ≠ 0 → RowR w ge T.e
  ne : T.e.length ≠ 0 → gy ≠ ge
  nil : T.e.length = 0 → ge = gy
  by' : T.y.length ≤ 8796093022208
  be : T.e.length ≤ 8796093022208
  mt : T.m ≤ T.e.length
section
variable {w : World} {z gy ge : Nat} {ti ma : Int} {T : TR}
theorem TbR.c0 (h : TbR w z gy ge ti ma T) : w.cell? ⟨z, 0, none⟩ = some (.int .i64 ti) := by rw [h.blk.cell]; rfl
theorem TbR.c1 (h : TbR w z gy ge ti ma T) : w.cell? ⟨z, 1, none⟩ = some (.int .i64 ma) := by rw [h.blk.cell]; rfl
theorem TbR.c2 (h : TbR w z gy ge ti ma T) : w.cell? ⟨z, 2, none⟩ = some (.slice (some ⟨gy, 0, none⟩) T.y.length T.y.length) := by rw [h.blk.cell]; rfl
theorem TbR.c3 (h : TbR w z gy ge ti ma T) : ∃ ao, w.cell? ⟨z, 3, none⟩ = some (.slice ao T.e.length T.e.length) ∧ (T.e.length ≠ 0 → ao = some ⟨ge, 0, none⟩) := by
  by_cases h0 : T.e.length = 0
  · exact ⟨none, by rw [h.blk.cell]; show some (oldV ge T.e.length) = _; rw [h0]; rfl, fun e => absurd h0 e⟩
  · exact ⟨_, by rw [h.blk.cell]; show some (oldV ge T.e.length) = _; unfold oldV; rw [if_neg h0], fun _ => rfl⟩
theorem TbR.c4 (h : TbR w z gy ge ti ma T) : w.cell? ⟨z, 4, none⟩ = some (.bool (decide (T.e.length ≠ 0))) := by rw [h.blk.cell]; rfl
theorem TbR.c5 (h : TbR w z gy ge ti ma T) : w.cell? ⟨z, 5, none⟩ = some (.int .i64 (T.m : Int)) := by rw [h.blk.cell]; rfl
theorem TbR.drewN (h : TbR w z gy ge ti ma T) (q : Nat) : TbR (w.drewN q) z gy ge ti ma T := ⟨h.blk, h.ry.same rfl, fun e => (h.re e).same rfl, h.ne, h.nil, h.by', h.be, h.mt⟩
theorem cnt_take (L : List SR) (q j : Nat) (h : j < L.length) : cnt (L.take (j + 1)) q = cnt (L.take j) q + if (sat L j).st = q then 1 else 0 := by
  unfold cnt
  rw [List.take_add_one, sat_get h, List.countP_append]
  simp [List.countP_cons]
theorem count_any (w : World) (ao : Option Addr) (n c g st : Nat) (L : List SR) (hL : L.length = n) (hr : n ≠ 0 → ao = some ⟨g, 0, none⟩ ∧ RowR w g L) (hn : n ≤ 8796093022208) :
    Calls Try.prog 87 #[.slice ao n c, .int .i64 (st : Int)] w fun e w' => e = .returned (.int .i64 (cnt L st : Int)) ∧ w' = w := by
  have HR := hide hr
  have HL := hide hL
  clear hr hL
  go_enter Try.func87, Try.ntmps87
  go_wp2
  go_loop [5, 6] (fun a t => ∃ j s : Nat, a = .int .i64 s ∧ t = .int .i64 j ∧ j ≤ n ∧ Hid (s = cnt (L.take j) st)) (fun _ t => n - (intOf t).toNat)
  case atStart => exact ⟨0, 0, rfl, rfl, Nat.zero_le _, hide (by simp [cnt])⟩
  case round =>
    obtain ⟨j, s, rfl, rfl, hj, hs⟩ := hrel
    have hsb : s ≤ 8796093022208 := by
      have := cnt_le (L.take j) st
      rw [← hs.out, List.length_take] at this
      omega
    by_cases hlt : j < n
    · have hji : (j : Int) < (n : Int) := by omega
      obtain ⟨rfl, hrow⟩ := HR.out (by omega)
      have hg := hrow.lt
      have hjl : j < L.length := by rw [HL.out]; exact hlt
      have d := hrow.c0 j hjl
      have HC := hide (cnt_take L st j hjl)
      generalize (sat L j).st = x at *
      clear hrow hjl
      by_cases e : x = st
      · have hb : ((x : Int) == (st : Int)) = true := by simp [e]
        have HE := hide e
        clear e
        go_wp2
        go_round
        case rel => exact ⟨j + 1, s + 1, by go_num, by go_num, by omega, hide (by rw [HC.out, if_pos HE.out, hs.out])⟩
        case measure => simp [intOf]; omega
      · have hb : ((x : Int) == (st : Int)) = false := by simp; omega
        have HE := hide e
        clear e
        go_wp2
        go_round
        case rel => exact ⟨j + 1, s, rfl, by go_num, by omega, hide (by rw [HC.out, if_neg HE.out, hs.out]; rfl)⟩
        case measure => simp [intOf]; omega
    · have hji : ¬ (j : Int) < (n : Int) := by omega
      have HF : Hid (s = cnt L st) := hide (by rw [hs.out, List.take_of_length_le (by rw [HL.out]; omega)])
      clear hs
      go_wp2
      go_returns
      exact ⟨by rw [HF.out]; rfl, rfl⟩
theorem cap_any (w : World) (H : TbR w z gy ge ti ma T) : Calls Try.prog 56 #[.pointer (some ⟨z, 0, none⟩)] w fun e w' => e = .returned (.int .i64 (T.y.length : Int)) ∧ ∃ q, w' = w.drewN q := by
  have c2 := H.c2
  have hz := H.blk.lt
  clear H
  go_enter Try.func56, Try.ntmps56
  go_wp2
  go_returns
  exact ⟨rfl, 0, rfl⟩
theorem tombs_any (w : World) (H : TbR w z gy ge ti ma T) : Calls Try.prog 58 #[.pointer (some ⟨z, 0, none⟩)] w fun e w' => e = .returned (.int .i64 (cnt T.y 2 : Int)) ∧ ∃ q, w' = w.drewN q := by
  have c2 := H.c2
  have hz := H.blk.lt
  have HC := hide (count_any w (some ⟨gy, 0, none⟩) T.y.length T.y.length gy 2 T.y rfl (fun _ => ⟨rfl, H.ry⟩) H.by')
  clear H
  go_enter Try.func58, Try.ntmps58
  go_wp2_with (go_at_call 87; refine HC.out.mono ?_; rintro e w' ⟨rfl, hw⟩; rw [hw]; clear hw)
  go_returns
  exact ⟨rfl, 0, rfl⟩
theorem left_any (w : World) (H : TbR w z gy ge ti ma T) : Calls Try.prog 59 #[.pointer (some ⟨z, 0, none⟩)] w fun e w' => e = .returned (.int .i64 (T.left : Int)) ∧ ∃ q, w' = w.drewN q := by
  obtain ⟨ao, c3, _⟩ := H.c3
  have c5 := H.c5
  have hz := H.blk.lt
  have be := H.be
  have mt := H.mt
  have HE : Hid ((T.left : Int) = (T.e.length : Int) - (T.m : Int)) := hide (by unfold Tb.left; omega)
  clear H
  generalize T.e.length = n at *
  generalize T.m = m at *
  go_enter Try.func59, Try.ntmps59
  go_upto_region 1 with fail
  go_quiet (fail)
  go_wp2
  go_returns
  exact ⟨by rw [HE.out]; rfl, _, rfl⟩
theorem len_any (w : World) (H : TbR w z gy ge ti ma T) : Calls Try.prog 55 #[.pointer (some ⟨z, 0, none⟩)] w fun e w' => e = .returned (.int .i64 (T.len : Int)) ∧ ∃ q, w' = w.drewN q := by
  have c2 := H.c2
  obtain ⟨ao, c3, hao⟩ := H.c3
  have hz := H.blk.lt
  have HC2 : Hid (∀ q, Calls Try.prog 87 #[.slice (some ⟨gy, 0, none⟩) T.y.length T.y.length, .int .i64 1] (w.drewN q) fun e w' => e = .returned (.int .i64 (cnt T.y 1 : Int)) ∧ ∃ q', w' = (w.drewN q).drewN q') := hide (fun q => (count_any (w.drewN q) (some ⟨gy, 0, none⟩) T.y.length T.y.length gy 1 T.y rfl (fun _ => ⟨rfl, (H.drewN q).ry⟩) H.by').mono (fun e w' h => ⟨h.1, 0, h.2⟩))
  have HC3 : Hid (∀ q, Calls Try.prog 87 #[.slice ao T.e.length T.e.length, .int .i64 1] (w.drewN q) fun e w' => e = .returned (.int .i64 (cnt T.e 1 : Int)) ∧ ∃ q', w' = (w.drewN q).drewN q') := hide (fun q => (count_any (w.drewN q) ao T.e.length T.e.length ge 1 T.e rfl (fun h => ⟨hao h, (H.drewN q).re h⟩) H.be).mono (fun e w' h => ⟨h.1, 0, h.2⟩))
  have b1 := cnt_le T.y 1
  have b2 := cnt_le T.e 1
  have b3 := H.by'
  have b4 := H.be
  have HE : Hid (T.len = cnt T.y 1 + cnt T.e 1) := hide rfl
  clear H hao
  generalize cnt T.y 1 = x at *
  generalize cnt T.e 1 = y at *
  have hx : x ≤ 8796093022208 := by omega
  have hy : y ≤ 8796093022208 := by omega
  generalize T.e.length = n at *
  generalize T.y.length = ny at *
  go_enter Try.func55, Try.ntmps55
  go_upto_region 1 with fail
  go_quiet ((go_at_call 87; first | with_reducible exact Calls.quiet_of (HC2.out _) | with_reducible exact Calls.quiet_of (HC3.out _)))
  go_wp2
  go_returns
  exact ⟨by rw [HE.out]; push_cast; rfl, _, rfl⟩
end
end RR
end Go.Proofs.Ytnknjcnbbljagaa
