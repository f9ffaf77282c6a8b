/- The document's table in memory: place, find. -/
import Derived.Test.YtnknjcnbbljagaaTI14
namespace Go.Proofs.Ytnknjcnbbljagaa
set_option linter.unusedVariables false
set_option linter.unusedSimpArgs false
namespace RR
set_option maxRecDepth 100000
open Go.RowKit

/-- A key with its tag: keys are equal when their first parts are. -/
abbrev KR := Int × Int
abbrev SR := Slt KR Int
abbrev TR := Tb KR Int
def eqR (a b : KR) : Bool := a.1 == b.1
def hsR (ti ma : Int) (k : KR) : Nat := hsh ti ma k.1
def kR : SR → Int
  | .ful k _ => k.1
  | .emp => 0
  | .tmb => 0
def tR : SR → Int
  | .ful k _ => k.2
  | .emp => 0
  | .tmb => 0
def vR : SR → Int
  | .ful _ v => v
  | .emp => 0
  | .tmb => 0
/-- A row of the document's slots. -/
structure RowR (w : World) (g : Nat) (L : List SR) : Prop where
  row : ∃ cur, Blk w g cur 145 ∧ cur.size = L.length * 4
  c0 : ∀ p, p < L.length → w.cell? ⟨g, p * 4, none⟩ = some (.int .i64 ((sat L p).st : Int))
  c1 : ∀ p, p < L.length → w.cell? ⟨g, p * 4 + 1, none⟩ = some (.int .i64 (kR (sat L p)))
  c2 : ∀ p, p < L.length → w.cell? ⟨g, p * 4 + 2, none⟩ = some (.int .i64 (tR (sat L p)))
  c3 : ∀ p, p < L.length → w.cell? ⟨g, p * 4 + 3, none⟩ = some (.int .i64 (vR (sat L p)))
theorem RowR.lt {w : World} {g : Nat} {L : List SR} (h : RowR w g L) : g < w.heap.size := by
  obtain ⟨cur, hb, _⟩ := h.row
  exact hb.lt
theorem RowR.same {w w' : World} {g : Nat} {L : List SR} (h : RowR w g L) (hs : w'.heap[g]? = w.heap[g]?) : RowR w' g L := by
  have hc : ∀ o, w'.cell? ⟨g, o, none⟩ = w.cell? ⟨g, o, none⟩ := fun o => by
    obtain ⟨cur, hb, _⟩ := h.row
    have hb' : Blk w' g cur 145 := hs.trans hb
    rw [hb'.cell, hb.cell]
  obtain ⟨cur, hb, hz⟩ := h.row
  exact ⟨⟨cur, hs.trans hb, hz⟩, fun p hp => (hc _).trans (h.c0 p hp), fun p hp => (hc _).trans (h.c1 p hp), fun p hp => (hc _).trans (h.c2 p hp), fun p hp => (hc _).trans (h.c3 p hp)⟩
theorem place_num (h i n : Nat) (hn : n ≤ 8796093022208) (hi : i < n) : wrap64 ((IntKind.u64.wrap ((h : Int) % (n : Int) + (i : Int))).tmod (n : Int)) = (((h + i) % n : Nat) : Int) := by
  have h1 : h % n < n := Nat.mod_lt _ (by omega)
  have h2 : (h + i) % n < n := Nat.mod_lt _ (by omega)
  have e0 : (h : Int) % (n : Int) + (i : Int) = ((h % n + i : Nat) : Int) := by simp
  have e1 : IntKind.u64.wrap ((h % n + i : Nat) : Int) = ((h % n + i : Nat) : Int) := by
    have : h % n + i < 18446744073709551616 := by omega
    generalize h % n + i = x at *
    simp [IntKind.wrap, IntKind.bits, IntKind.signed]; omega
  rw [e0, e1, ← Int.ofNat_tmod, Nat.mod_add_mod, wrap_is]
  exact wrapi64_nat _ (by omega)
theorem place_any (w : World) (z n c : Nat) (ga : Option Addr) (ti ma k : Int) (i : Nat) (c0 : w.cell? ⟨z, 0, none⟩ = some (.int .i64 ti)) (c1 : w.cell? ⟨z, 1, none⟩ = some (.int .i64 ma)) (hn : n ≤ 8796093022208) (hi : i < n) :
    Calls Try.prog 98 #[.pointer (some ⟨z, 0, none⟩), .slice ga n c, .int .i64 k, .int .i64 (i : Int)] w fun e w' => e = .returned (.int .i64 (((hsh ti ma k + i) % n : Nat) : Int)) ∧ ∃ q, w' = w.drewN q := by
  have HH : Hid (∀ q, Calls Try.prog 10 #[.int .i64 k, .int .i64 ti, .int .i64 ma] (w.drewN q) fun e w' => e = .returned (.int .u64 (hsh ti ma k : Int)) ∧ ∃ q', w' = (w.drewN q).drewN q') := hide (fun q => (hash_any (w.drewN q) k ti ma).mono (fun e w' h => ⟨h.1, 0, h.2⟩))
  have hz := World.block_lt_of_cell? w _ c0
  have hn0 : 0 < n := by omega
  have hi2 : i ≤ 8796093022208 := by omega
  have HE := hide (place_num (hsh ti ma k) i n hn hi)
  have hlt := hsh_lt ti ma k
  generalize hsh ti ma k = h at *
  obtain ⟨R, hR⟩ : ∃ R, R = (h + i) % n := ⟨_, rfl⟩
  rw [← hR] at HE ⊢
  clear hR
  go_enter Try.func98, Try.ntmps98
  go_upto_region 1 with fail
  go_quiet ((go_at_call 10; exact Calls.quiet_of (HH.out _)))
  go_wp2
  rw [HE.out]
  go_ret
  exact ⟨rfl, _, rfl⟩
def fndR (r : Option Nat × Nat) : Value := .tuple #[.int .i64 (match r.1 with | some p => (p : Int) | none => -1), .int .i64 (r.2 : Int)]
theorem find_any (w : World) (z n c g : Nat) (ti ma : Int) (L : List SR) (k : KR) (c0 : w.cell? ⟨z, 0, none⟩ = some (.int .i64 ti)) (c1 : w.cell? ⟨z, 1, none⟩ = some (.int .i64 ma)) (hL : L.length = n) (hr : RowR w g L) (hn : n ≤ 8796093022208) :
    Calls Try.prog 85 #[.pointer (some ⟨z, 0, none⟩), .slice (some ⟨g, 0, none⟩) n c, .int .i64 k.1] w fun e w' => e = .returned (fndR (find eqR L (hsR ti ma k) k)) ∧ ∃ q, w' = w.drewN q := by
  obtain ⟨h, hh⟩ : ∃ h, h = hsh ti ma k.1 := ⟨_, rfl⟩
  have HW := hide (fun q i hi => place_any (w.drewN q) z n c (some ⟨g, 0, none⟩) ti ma k.1 i c0 c1 hn hi)
  rw [← hh] at HW
  rw [show hsR ti ma k = h from hh.symm]
  have hg := hr.lt
  have hz := World.block_lt_of_cell? w _ c0
  have HR := hide hr
  have HL := hide hL
  obtain ⟨kk, tt⟩ := k
  dsimp only at HW ⊢
  clear hr hL hh c0 c1
  go_enter Try.func85, Try.ntmps85
  go_wp2
  go_loopw [8] (fun t wr => ∃ j q : Nat, t = .int .i64 j ∧ j ≤ n ∧ wr = w.drewN q ∧ Hid (find eqR L h (kk, tt) = fnd eqR L h (kk, tt) (n - j) j)) (fun t _ => n - (intOf t).toNat)
  case atStart => exact ⟨0, 0, rfl, Nat.zero_le _, rfl, hide (by unfold find; rw [HL.out]; rfl)⟩
  case round =>
    obtain ⟨j, q, rfl, hj, rfl, hq⟩ := hrel
    by_cases hlt : j < n
    · have hji : (j : Int) < (n : Int) := by omega
      have hpl : (h + j) % n < n := Nat.mod_lt _ (by omega)
      have HWj := hide (HW.out q j hlt)
      have HQ : Hid (find eqR L h (kk, tt) = fnd eqR L h (kk, tt) (n - (j + 1) + 1) j) := hide (by rw [hq.out, show n - j = (n - (j + 1)) + 1 by omega])
      obtain ⟨p, hp⟩ : ∃ p, p = (h + j) % n := ⟨_, rfl⟩
      have HP : Hid ((h + j) % L.length = p) := hide (by rw [HL.out, hp])
      rw [← hp] at hpl HWj
      have d0 := HR.out.c0 p (by rw [HL.out]; exact hpl)
      have d1 := HR.out.c1 p (by rw [HL.out]; exact hpl)
      have hpi : (p : Int) < (n : Int) := by omega
      clear hq hp
      cases hs : sat L p with
      | emp =>
        rw [hs] at d0 d1
        have HF : Hid (find eqR L h (kk, tt) = (none, j + 1)) := hide (by rw [HQ.out]; exact fnd_emp (by rw [HP.out]; exact hs))
        have e0 : (((Slt.emp : SR).st : Nat) : Int) = 0 := rfl
        rw [e0] at d0
        clear hs HQ e0
        go_wp2_with (go_at_call 98; refine HWj.out.mono ?_; rintro e w' ⟨rfl, q1, hw⟩; rw [hw]; clear hw)
        go_returns
        exact ⟨by rw [HF.out]; rfl, _, rfl⟩
      | tmb =>
        rw [hs] at d0 d1
        have HF : Hid (find eqR L h (kk, tt) = fnd eqR L h (kk, tt) (n - (j + 1)) (j + 1)) := hide (by rw [HQ.out]; exact fnd_tmb (by rw [HP.out]; exact hs))
        have e0 : (((Slt.tmb : SR).st : Nat) : Int) = 2 := rfl
        rw [e0] at d0
        clear hs HQ e0
        go_wp2_with (go_at_call 98; refine HWj.out.mono ?_; rintro e w' ⟨rfl, q1, hw⟩; rw [hw]; clear hw)
        go_roundw
        case rel => exact ⟨j + 1, _, by go_num, by omega, rfl, HF⟩
        case measure => simp [intOf]; omega
      | ful k' v' =>
        rw [hs] at d0 d1
        have e0 : (((Slt.ful k' v' : SR).st : Nat) : Int) = 1 := rfl
        have e1 : kR (Slt.ful k' v') = k'.1 := rfl
        rw [e0] at d0
        rw [e1] at d1
        cases he : eqR k' (kk, tt) with
        | true =>
          have HF : Hid (find eqR L h (kk, tt) = (some p, j + 1)) := hide (by rw [HQ.out, fnd_yes (by rw [HP.out]; exact hs) he, HP.out])
          have hb : (k'.1 == kk) = true := he
          clear hs HQ e0 e1 he
          go_wp2_with (go_at_call 98; refine HWj.out.mono ?_; rintro e w' ⟨rfl, q1, hw⟩; rw [hw]; clear hw)
          go_returns
          exact ⟨by rw [HF.out]; rfl, _, rfl⟩
        | false =>
          have HF : Hid (find eqR L h (kk, tt) = fnd eqR L h (kk, tt) (n - (j + 1)) (j + 1)) := hide (by rw [HQ.out]; exact fnd_no (by rw [HP.out]; exact hs) he)
          have hb : (k'.1 == kk) = false := he
          clear hs HQ e0 e1 he
          go_wp2_with (go_at_call 98; refine HWj.out.mono ?_; rintro e w' ⟨rfl, q1, hw⟩; rw [hw]; clear hw)
          go_roundw
          case rel => exact ⟨j + 1, _, by go_num, by omega, rfl, HF⟩
          case measure => simp [intOf]; omega
    · have hji : ¬ (j : Int) < (n : Int) := by omega
      have HF : Hid (find eqR L h (kk, tt) = (none, n)) := hide (by rw [hq.out, show j = n by omega, Nat.sub_self]; rfl)
      clear hq
      go_wp2
      go_returns
      exact ⟨by rw [HF.out]; rfl, _, rfl⟩
end RR
end Go.Proofs.Ytnknjcnbbljagaa

/- The document's table in memory: its block; count, Len, Cap, Tombs, Left. -/
namespace Go.Proofs.Ytnknjcnbbljagaa
set_option linter.unusedVariables false
set_option linter.unusedSimpArgs false
namespace RR
set_option maxRecDepth 100000
open Go.RowKit

def oldV (ge n : Nat) : Value := if n = 0 then .slice none 0 0 else .slice (some ⟨ge, 0, none⟩) n n
def tbR (ti ma : Int) (gy ge ny ne m : Nat) : Array Value := #[.int .i64 ti, .int .i64 ma, .slice (some ⟨gy, 0, none⟩) ny ny, oldV ge ne, .bool (decide (ne ≠ 0)), .int .i64 (m : Int)]
/-- The document's table. -/
structure TbR (w : World) (z gy ge : Nat) (ti ma : Int) (T : TR) : Prop where
  blk : Blk w z (tbR ti ma gy ge T.y.length T.e.length T.m) 98
  ry : RowR w gy T.y
  re : T.e.length ≠ 0 → RowR w ge T.e
  ne : T.e.length ≠ 0 → gy ≠ ge
  nil : T.e.length = 0 → ge = gy
  by' : T.y.length ≤ 8796093022208
  be : T.e.length ≤ 8796093022208
  mt : T.m ≤ T.e.length
section
variable {w : World} {z gy ge : Nat} {ti ma : Int} {T : TR}
theorem TbR.c0 (h : TbR w z gy ge ti ma T) : w.cell? ⟨z, 0, none⟩ = some (.int .i64 ti) := by rw [h.blk.cell]; rfl
theorem TbR.c1 (h : TbR w z gy ge ti ma T) : w.cell? ⟨z, 1, none⟩ = some (.int .i64 ma) := by rw [h.blk.cell]; rfl
theorem TbR.c2 (h : TbR w z gy ge ti ma T) : w.cell? ⟨z, 2, none⟩ = some (.slice (some ⟨gy, 0, none⟩) T.y.length T.y.length) := by rw [h.blk.cell]; rfl
theorem TbR.c3 (h : TbR w z gy ge ti ma T) : ∃ ao, w.cell? ⟨z, 3, none⟩ = some (.slice ao T.e.length T.e.length) ∧ (T.e.length ≠ 0 → ao = some ⟨ge, 0, none⟩) := by
  by_cases h0 : T.e.length = 0
  · exact ⟨none, by rw [h.blk.cell]; show some (oldV ge T.e.length) = _; rw [h0]; rfl, fun e => absurd h0 e⟩
  · exact ⟨_, by rw [h.blk.cell]; show some (oldV ge T.e.length) = _; unfold oldV; rw [if_neg h0], fun _ => rfl⟩
theorem TbR.c4 (h : TbR w z gy ge ti ma T) : w.cell? ⟨z, 4, none⟩ = some (.bool (decide (T.e.length ≠ 0))) := by rw [h.blk.cell]; rfl
theorem TbR.c5 (h : TbR w z gy ge ti ma T) : w.cell? ⟨z, 5, none⟩ = some (.int .i64 (T.m : Int)) := by rw [h.blk.cell]; rfl
theorem TbR.drewN (h : TbR w z gy ge ti ma T) (q : Nat) : TbR (w.drewN q) z gy ge ti ma T := ⟨h.blk, h.ry.same rfl, fun e => (h.re e).same rfl, h.ne, h.nil, h.by', h.be, h.mt⟩
theorem cnt_take (L : List SR) (q j : Nat) (h : j < L.length) : cnt (L.take (j + 1)) q = cnt (L.take j) q + if (sat L j).st = q then 1 else 0 := by
  unfold cnt
  rw [List.take_add_one, sat_get h, List.countP_append]
  simp [List.countP_cons]
theorem count_any (w : World) (ao : Option Addr) (n c g st : Nat) (L : List SR) (hL : L.length = n) (hr : n ≠ 0 → ao = some ⟨g, 0, none⟩ ∧ RowR w g L) (hn : n ≤ 8796093022208) :
    Calls Try.prog 87 #[.slice ao n c, .int .i64 (st : Int)] w fun e w' => e = .returned (.int .i64 (cnt L st : Int)) ∧ w' = w := by
  have HR := hide hr
  have HL := hide hL
  clear hr hL
  go_enter Try.func87, Try.ntmps87
  go_wp2
  go_loop [5, 6] (fun a t => ∃ j s : Nat, a = .int .i64 s ∧ t = .int .i64 j ∧ j ≤ n ∧ Hid (s = cnt (L.take j) st)) (fun _ t => n - (intOf t).toNat)
  case atStart => exact ⟨0, 0, rfl, rfl, Nat.zero_le _, hide (by simp [cnt])⟩
  case round =>
    obtain ⟨j, s, rfl, rfl, hj, hs⟩ := hrel
    have hsb : s ≤ 8796093022208 := by
      have := cnt_le (L.take j) st
      rw [← hs.out, List.length_take] at this
      omega
    by_cases hlt : j < n
    · have hji : (j : Int) < (n : Int) := by omega
      obtain ⟨rfl, hrow⟩ := HR.out (by omega)
      have hg := hrow.lt
      have hjl : j < L.length := by rw [HL.out]; exact hlt
      have d := hrow.c0 j hjl
      have HC := hide (cnt_take L st j hjl)
      generalize (sat L j).st = x at *
      clear hrow hjl
      by_cases e : x = st
      · have hb : ((x : Int) == (st : Int)) = true := by simp [e]
        have HE := hide e
        clear e
        go_wp2
        go_round
        case rel => exact ⟨j + 1, s + 1, by go_num, by go_num, by omega, hide (by rw [HC.out, if_pos HE.out, hs.out])⟩
        case measure => simp [intOf]; omega
      · have hb : ((x : Int) == (st : Int)) = false := by simp; omega
        have HE := hide e
        clear e
        go_wp2
        go_round
        case rel => exact ⟨j + 1, s, rfl, by go_num, by omega, hide (by rw [HC.out, if_neg HE.out, hs.out]; rfl)⟩
        case measure => simp [intOf]; omega
    · have hji : ¬ (j : Int) < (n : Int) := by omega
      have HF : Hid (s = cnt L st) := hide (by rw [hs.out, List.take_of_length_le (by rw [HL.out]; omega)])
      clear hs
      go_wp2
      go_returns
      exact ⟨by rw [HF.out]; rfl, rfl⟩
theorem cap_any (w : World) (H : TbR w z gy ge ti ma T) : Calls Try.prog 56 #[.pointer (some ⟨z, 0, none⟩)] w fun e w' => e = .returned (.int .i64 (T.y.length : Int)) ∧ ∃ q, w' = w.drewN q := by
  have c2 := H.c2
  have hz := H.blk.lt
  clear H
  go_enter Try.func56, Try.ntmps56
  go_wp2
  go_returns
  exact ⟨rfl, 0, rfl⟩
theorem tombs_any (w : World) (H : TbR w z gy ge ti ma T) : Calls Try.prog 58 #[.pointer (some ⟨z, 0, none⟩)] w fun e w' => e = .returned (.int .i64 (cnt T.y 2 : Int)) ∧ ∃ q, w' = w.drewN q := by
  have c2 := H.c2
  have hz := H.blk.lt
  have HC := hide (count_any w (some ⟨gy, 0, none⟩) T.y.length T.y.length gy 2 T.y rfl (fun _ => ⟨rfl, H.ry⟩) H.by')
  clear H
  go_enter Try.func58, Try.ntmps58
  go_wp2_with (go_at_call 87; refine HC.out.mono ?_; rintro e w' ⟨rfl, hw⟩; rw [hw]; clear hw)
  go_returns
  exact ⟨rfl, 0, rfl⟩
theorem left_any (w : World) (H : TbR w z gy ge ti ma T) : Calls Try.prog 59 #[.pointer (some ⟨z, 0, none⟩)] w fun e w' => e = .returned (.int .i64 (T.left : Int)) ∧ ∃ q, w' = w.drewN q := by
  obtain ⟨ao, c3, _⟩ := H.c3
  have c5 := H.c5
  have hz := H.blk.lt
  have be := H.be
  have mt := H.mt
  have HE : Hid ((T.left : Int) = (T.e.length : Int) - (T.m : Int)) := hide (by unfold Tb.left; omega)
  clear H
  generalize T.e.length = n at *
  generalize T.m = m at *
  go_enter Try.func59, Try.ntmps59
  go_upto_region 1 with fail
  go_quiet (fail)
  go_wp2
  go_returns
  exact ⟨by rw [HE.out]; rfl, _, rfl⟩
theorem len_any (w : World) (H : TbR w z gy ge ti ma T) : Calls Try.prog 55 #[.pointer (some ⟨z, 0, none⟩)] w fun e w' => e = .returned (.int .i64 (T.len : Int)) ∧ ∃ q, w' = w.drewN q := by
  have c2 := H.c2
  obtain ⟨ao, c3, hao⟩ := H.c3
  have hz := H.blk.lt
  have HC2 : Hid (∀ q, Calls Try.prog 87 #[.slice (some ⟨gy, 0, none⟩) T.y.length T.y.length, .int .i64 1] (w.drewN q) fun e w' => e = .returned (.int .i64 (cnt T.y 1 : Int)) ∧ ∃ q', w' = (w.drewN q).drewN q') := hide (fun q => (count_any (w.drewN q) (some ⟨gy, 0, none⟩) T.y.length T.y.length gy 1 T.y rfl (fun _ => ⟨rfl, (H.drewN q).ry⟩) H.by').mono (fun e w' h => ⟨h.1, 0, h.2⟩))
  have HC3 : Hid (∀ q, Calls Try.prog 87 #[.slice ao T.e.length T.e.length, .int .i64 1] (w.drewN q) fun e w' => e = .returned (.int .i64 (cnt T.e 1 : Int)) ∧ ∃ q', w' = (w.drewN q).drewN q') := hide (fun q => (count_any (w.drewN q) ao T.e.length T.e.length ge 1 T.e rfl (fun h => ⟨hao h, (H.drewN q).re h⟩) H.be).mono (fun e w' h => ⟨h.1, 0, h.2⟩))
  have b1 := cnt_le T.y 1
  have b2 := cnt_le T.e 1
  have b3 := H.by'
  have b4 := H.be
  have HE : Hid (T.len = cnt T.y 1 + cnt T.e 1) := hide rfl
  clear H hao
  generalize cnt T.y 1 = x at *
  generalize cnt T.e 1 = y at *
  have hx : x ≤ 8796093022208 := by omega
  have hy : y ≤ 8796093022208 := by omega
  generalize T.e.length = n at *
  generalize T.y.length = ny at *
  go_enter Try.func55, Try.ntmps55
  go_upto_region 1 with fail
  go_quiet ((go_at_call 87; first | with_reducible exact Calls.quiet_of (HC2.out _) | with_reducible exact Calls.quiet_of (HC3.out _)))
  go_wp2
  go_returns
  exact ⟨by rw [HE.out]; push_cast; rfl, _, rfl⟩
end
end RR
end Go.Proofs.Ytnknjcnbbljagaa

/- The document's table in memory: Get, Probes. -/
namespace Go.Proofs.Ytnknjcnbbljagaa
set_option linter.unusedVariables false
set_option linter.unusedSimpArgs false
namespace RR
set_option maxRecDepth 100000
open Go.RowKit

section
variable {w : World} {z gy ge : Nat} {ti ma : Int} {T : TR}
theorem TbR.findY (H : TbR w z gy ge ti ma T) (k : KR) {r : Option Nat × Nat} (hr : find eqR T.y (hsR ti ma k) k = r) : ∀ q, Calls Try.prog 85 #[.pointer (some ⟨z, 0, none⟩), .slice (some ⟨gy, 0, none⟩) T.y.length T.y.length, .int .i64 k.1] (w.drewN q) fun e w' => e = .returned (fndR r) ∧ ∃ q', w' = (w.drewN q).drewN q' := by
  intro q
  rw [← hr]
  exact find_any (w.drewN q) z T.y.length T.y.length gy ti ma T.y k (H.drewN q).c0 (H.drewN q).c1 rfl (H.drewN q).ry H.by'
theorem TbR.findE (H : TbR w z gy ge ti ma T) (h0 : T.e.length ≠ 0) (k : KR) {r : Option Nat × Nat} (hr : find eqR T.e (hsR ti ma k) k = r) : ∀ q, Calls Try.prog 85 #[.pointer (some ⟨z, 0, none⟩), .slice (some ⟨ge, 0, none⟩) T.e.length T.e.length, .int .i64 k.1] (w.drewN q) fun e w' => e = .returned (fndR r) ∧ ∃ q', w' = (w.drewN q).drewN q' := by
  intro q
  rw [← hr]
  exact find_any (w.drewN q) z T.e.length T.e.length ge ti ma T.e k (H.drewN q).c0 (H.drewN q).c1 rfl ((H.drewN q).re h0) H.be
theorem find_nil0 {L : List SR} (h : L.length = 0) (x : Nat) (k : KR) : find eqR L x k = (none, 0) := by
  unfold find
  rw [h]
  rfl
theorem val_row {g p : Nat} {L : List SR} (hr : RowR w g L) (hp : p < L.length) : w.cell? ⟨g, p * 4 + 3, none⟩ = some (.int .i64 (valS 0 (sat L p))) := by
  rw [hr.c3 p hp]
  cases sat L p <;> rfl
def GetC (w : World) (ti ma : Int) (T : TR) (k : KR) (e : Ending) (w' : World) : Prop := e = .returned (.tuple #[.int .i64 (valT 0 T (seek eqR (hsR ti ma) T k).1), .bool (seek eqR (hsR ti ma) T k).1.isSome]) ∧ ∃ q, w' = w.drewN q
theorem get_any (w : World) (H : TbR w z gy ge ti ma T) (k : KR) : Calls Try.prog 53 #[.pointer (some ⟨z, 0, none⟩), .int .i64 k.1] w (GetC w ti ma T k) := by
  unfold GetC
  have c2 := H.c2
  have c4 := H.c4
  have hz := H.blk.lt
  have b1 := H.by'
  have b2 := H.be
  cases hy : find eqR T.y (hsR ti ma k) k with
  | mk r n =>
    have HY := hide (H.findY k hy)
    cases r with
    | some p =>
      obtain ⟨hp, _⟩ := find_some hy
      have d := val_row H.ry hp
      have HS : Hid (seek eqR (hsR ti ma) T k = (some (false, p), n)) := hide (by unfold seek; rw [hy])
      rw [HS.out]
      have HV : Hid (valT 0 T (some (false, p)) = valS 0 (sat T.y p)) := hide rfl
      rw [HV.out]
      have hpi : (p : Int) < (T.y.length : Int) := by omega
      have hg := H.ry.lt
      unfold fndR at HY
      dsimp only at HY
      clear H hy c4
      generalize valS 0 (sat T.y p) = y at *
      generalize T.y.length = ny at *
      obtain ⟨kk, tt⟩ := k
      dsimp only at HY ⊢
      go_enter Try.func53, Try.ntmps53
      go_wp2_with (go_at_call 85; refine (HY.out 0).mono ?_; rintro e w' ⟨rfl, q1, hw⟩; rw [hw]; clear hw)
      go_returns
      exact ⟨rfl, _, rfl⟩
    | none =>
      by_cases h0 : T.e.length = 0
      · have HS : Hid (seek eqR (hsR ti ma) T k = (none, n + 0)) := hide (by unfold seek; rw [hy, find_nil0 h0])
        rw [HS.out]
        rw [show decide (T.e.length ≠ 0) = false by simp [h0]] at c4
        unfold fndR at HY
        dsimp only at HY
        clear H hy h0
        generalize T.y.length = ny at *
        obtain ⟨kk, tt⟩ := k
        dsimp only at HY ⊢
        go_enter Try.func53, Try.ntmps53
        go_wp2_with (go_at_call 85; refine (HY.out 0).mono ?_; rintro e w' ⟨rfl, q1, hw⟩; rw [hw]; clear hw)
        go_returns
        exact ⟨rfl, _, rfl⟩
      · obtain ⟨ao, c3, hao⟩ := H.c3
        obtain rfl := hao h0
        rw [show decide (T.e.length ≠ 0) = true by simp [h0]] at c4
        cases he : find eqR T.e (hsR ti ma k) k with
        | mk r2 n2 =>
          have HE := hide (H.findE h0 k he)
          cases r2 with
          | some p =>
            obtain ⟨hp, _⟩ := find_some he
            have d := val_row (H.re h0) hp
            have HS : Hid (seek eqR (hsR ti ma) T k = (some (true, p), n + n2)) := hide (by unfold seek; rw [hy]; dsimp only; rw [he])
            rw [HS.out]
            have HV : Hid (valT 0 T (some (true, p)) = valS 0 (sat T.e p)) := hide rfl
            rw [HV.out]
            have hpi : (p : Int) < (T.e.length : Int) := by omega
            have hg := (H.re h0).lt
            unfold fndR at HY HE
            dsimp only at HY HE
            clear H hy he h0 hao
            generalize valS 0 (sat T.e p) = y at *
            generalize T.y.length = ny at *
            generalize T.e.length = ne at *
            obtain ⟨kk, tt⟩ := k
            dsimp only at HY HE ⊢
            go_enter Try.func53, Try.ntmps53
            go_upto_region 5 with (go_at_call 85; refine (HY.out 0).mono ?_; rintro e w' ⟨rfl, q1, hw⟩; rw [hw]; clear hw)
            go_wp2_with (go_at_call 85; refine (HE.out _).mono ?_; rintro e w'' ⟨rfl, q2, hw⟩; rw [hw]; clear hw)
            go_returns
            exact ⟨rfl, _, rfl⟩
          | none =>
            have HS : Hid (seek eqR (hsR ti ma) T k = (none, n + n2)) := hide (by unfold seek; rw [hy]; dsimp only; rw [he])
            rw [HS.out]
            unfold fndR at HY HE
            dsimp only at HY HE
            clear H hy he h0 hao
            generalize T.y.length = ny at *
            generalize T.e.length = ne at *
            obtain ⟨kk, tt⟩ := k
            dsimp only at HY HE ⊢
            go_enter Try.func53, Try.ntmps53
            go_upto_region 5 with (go_at_call 85; refine (HY.out 0).mono ?_; rintro e w' ⟨rfl, q1, hw⟩; rw [hw]; clear hw)
            go_wp2_with (go_at_call 85; refine (HE.out _).mono ?_; rintro e w'' ⟨rfl, q2, hw⟩; rw [hw]; clear hw)
            go_returns
            exact ⟨rfl, _, rfl⟩
end
end RR
end Go.Proofs.Ytnknjcnbbljagaa

/- The document's table in memory: Probes. -/
namespace Go.Proofs.Ytnknjcnbbljagaa
set_option linter.unusedVariables false
set_option linter.unusedSimpArgs false
namespace RR
set_option maxRecDepth 100000
open Go.RowKit

section
variable {w : World} {z gy ge : Nat} {ti ma : Int} {T : TR}
theorem probes_any (w : World) (H : TbR w z gy ge ti ma T) (k : KR) : Calls Try.prog 54 #[.pointer (some ⟨z, 0, none⟩), .int .i64 k.1] w fun e w' => e = .returned (.int .i64 ((seek eqR (hsR ti ma) T k).2 : Int)) ∧ ∃ q, w' = w.drewN q := by
  have c2 := H.c2
  have c4 := H.c4
  have hz := H.blk.lt
  have b1 := H.by'
  have b2 := H.be
  cases hy : find eqR T.y (hsR ti ma k) k with
  | mk r n =>
    have HY := hide (H.findY k hy)
    cases r with
    | some p =>
      have HS : Hid (seek eqR (hsR ti ma) T k = (some (false, p), n)) := hide (by unfold seek; rw [hy])
      rw [HS.out]
      have hp0 : (0 : Int) ≤ (p : Int) := by omega
      have hp1 : ¬ (p : Int) < 0 := by omega
      unfold fndR at HY
      dsimp only at HY
      clear H hy c4
      generalize T.y.length = ny at *
      obtain ⟨kk, tt⟩ := k
      dsimp only at HY ⊢
      go_enter Try.func54, Try.ntmps54
      go_wp2_with (go_at_call 85; refine (HY.out 0).mono ?_; rintro e w' ⟨rfl, q1, hw⟩; rw [hw]; clear hw)
      go_returns
      exact ⟨rfl, _, rfl⟩
    | none =>
      by_cases h0 : T.e.length = 0
      · have HS : Hid (seek eqR (hsR ti ma) T k = (none, n)) := hide (by unfold seek; rw [hy, find_nil0 h0]; rfl)
        rw [HS.out]
        rw [show decide (T.e.length ≠ 0) = false by simp [h0]] at c4
        unfold fndR at HY
        dsimp only at HY
        clear H hy h0
        generalize T.y.length = ny at *
        obtain ⟨kk, tt⟩ := k
        dsimp only at HY ⊢
        go_enter Try.func54, Try.ntmps54
        go_wp2_with (go_at_call 85; refine (HY.out 0).mono ?_; rintro e w' ⟨rfl, q1, hw⟩; rw [hw]; clear hw)
        go_returns
        exact ⟨rfl, _, rfl⟩
      · obtain ⟨ao, c3, hao⟩ := H.c3
        obtain rfl := hao h0
        rw [show decide (T.e.length ≠ 0) = true by simp [h0]] at c4
        cases he : find eqR T.e (hsR ti ma k) k with
        | mk r2 n2 =>
          have HE := hide (H.findE h0 k he)
          have HS : Hid ((seek eqR (hsR ti ma) T k).2 = n + n2) := hide (by unfold seek; rw [hy]; dsimp only; rw [he]; cases r2 <;> rfl)
          rw [HS.out]
          have l1 := find_le eqR T.y (hsR ti ma k) k
          have l2 := find_le eqR T.e (hsR ti ma k) k
          rw [hy] at l1
          rw [he] at l2
          dsimp only at l1 l2
          have hn1 : n ≤ 8796093022208 := by omega
          have hn2 : n2 ≤ 8796093022208 := by omega
          cases r2
          all_goals
            unfold fndR at HY HE
            dsimp only at HY HE
            clear H hy he h0 hao l1 l2
            generalize T.y.length = ny at *
            generalize T.e.length = ne at *
            obtain ⟨kk, tt⟩ := k
            dsimp only at HY HE ⊢
            go_enter Try.func54, Try.ntmps54
            go_upto_region 3 with (go_at_call 85; refine (HY.out 0).mono ?_; rintro e w' ⟨rfl, q1, hw⟩; rw [hw]; clear hw)
            go_wp2_with (go_at_call 85; refine (HE.out _).mono ?_; rintro e w'' ⟨rfl, q2, hw⟩; rw [hw]; clear hw)
            go_returns
            exact ⟨by push_cast; rfl, _, rfl⟩
end
end RR
end Go.Proofs.Ytnknjcnbbljagaa

/- The document's table in memory: a slot is written. -/
namespace Go.Proofs.Ytnknjcnbbljagaa
set_option linter.unusedVariables false
set_option linter.unusedSimpArgs false
namespace RR
set_option maxRecDepth 100000
open Go.RowKit

def setR (w : World) (g p : Nat) (s : SR) : World := (((w.setCell ⟨g, p * 4, none⟩ (.int .i64 (s.st : Int))).setCell ⟨g, p * 4 + 1, none⟩ (.int .i64 (kR s))).setCell ⟨g, p * 4 + 2, none⟩ (.int .i64 (tR s))).setCell ⟨g, p * 4 + 3, none⟩ (.int .i64 (vR s))
theorem RowR.put {w : World} {g : Nat} {L : List SR} (h : RowR w g L) (p : Nat) (hp : p < L.length) (s : SR) : RowR (setR w g p s) g (L.set p s) := by
  obtain ⟨cur, hb, hc⟩ := h.row
  have h3 := (((hb.set (p * 4) (.int .i64 (s.st : Int))).set (p * 4 + 1) (.int .i64 (kR s))).set (p * 4 + 2) (.int .i64 (tR s))).set (p * 4 + 3) (.int .i64 (vR s))
  have cell : ∀ o, (setR w g p s).cell? ⟨g, o, none⟩ = ((((cur.setIfInBounds (p * 4) (.int .i64 (s.st : Int))).setIfInBounds (p * 4 + 1) (.int .i64 (kR s))).setIfInBounds (p * 4 + 2) (.int .i64 (tR s))).setIfInBounds (p * 4 + 3) (.int .i64 (vR s)))[o]? := fun o => h3.cell o
  have old : ∀ o, w.cell? ⟨g, o, none⟩ = cur[o]? := fun o => hb.cell o
  refine ⟨⟨_, h3, by simpa using hc⟩, fun q hq => ?_, fun q hq => ?_, fun q hq => ?_, fun q hq => ?_⟩
  all_goals
    rw [List.length_set] at hq
    rw [cell, sat_set hp]
    by_cases e : q = p
    · subst e
      rw [if_pos rfl]
      first
        | (rw [Array.getElem?_setIfInBounds_ne (by omega), Array.getElem?_setIfInBounds_ne (by omega), Array.getElem?_setIfInBounds_ne (by omega), Array.getElem?_setIfInBounds_self_of_lt (by omega)]; done)
        | (rw [Array.getElem?_setIfInBounds_ne (by omega), Array.getElem?_setIfInBounds_ne (by omega), Array.getElem?_setIfInBounds_self_of_lt (by simp; omega)]; done)
        | (rw [Array.getElem?_setIfInBounds_ne (by omega), Array.getElem?_setIfInBounds_self_of_lt (by simp; omega)]; done)
        | (rw [Array.getElem?_setIfInBounds_self_of_lt (by simp; omega)]; done)
    · rw [if_neg e, Array.getElem?_setIfInBounds_ne (by omega), Array.getElem?_setIfInBounds_ne (by omega), Array.getElem?_setIfInBounds_ne (by omega), Array.getElem?_setIfInBounds_ne (by omega), ← old]
      first | exact h.c0 q hq | exact h.c1 q hq | exact h.c2 q hq | exact h.c3 q hq
section
variable {w : World} {z gy ge : Nat} {ti ma : Int} {T : TR}
theorem setR_other (w : World) (g p : Nat) (s : SR) {b : Nat} (hb : b ≠ g) : (setR w g p s).heap[b]? = w.heap[b]? := by
  unfold setR
  rw [heap_setCell_other _ _ _ _ hb, heap_setCell_other _ _ _ _ hb, heap_setCell_other _ _ _ _ hb, heap_setCell_other _ _ _ _ hb]
theorem row_ne {b g : Nat} {cs : Array Value} {t : TypeId} {L : List SR} (hb : Blk w b cs t) (hr : RowR w g L) (ht : t ≠ 145) : b ≠ g := by
  rintro rfl
  obtain ⟨cur, h, _⟩ := hr.row
  unfold Blk at hb h
  rw [hb] at h
  cases h
  exact ht rfl
theorem TbR.putY (h : TbR w z gy ge ti ma T) (p : Nat) (hp : p < T.y.length) (s : SR) : TbR (setR w gy p s) z gy ge ti ma ⟨T.y.set p s, T.e, T.m⟩ := by
  have hz := row_ne h.blk h.ry (by decide)
  refine ⟨?_, h.ry.put p hp s, fun e => (h.re e).same (setR_other _ _ _ _ (fun q => h.ne e q.symm)), h.ne, h.nil, by simpa using h.by', h.be, h.mt⟩
  show Blk _ z (tbR ti ma gy ge (T.y.set p s).length T.e.length T.m) _
  rw [List.length_set]
  exact (setR_other _ _ _ _ hz).trans h.blk
theorem TbR.putE (h : TbR w z gy ge ti ma T) (p : Nat) (hp : p < T.e.length) (s : SR) : TbR (setR w ge p s) z gy ge ti ma ⟨T.y, T.e.set p s, T.m⟩ := by
  have h0 : T.e.length ≠ 0 := by omega
  have hz := row_ne h.blk (h.re h0) (by decide)
  refine ⟨?_, h.ry.same (setR_other _ _ _ _ (h.ne h0)), fun _ => (h.re h0).put p hp s, fun _ => h.ne h0, fun e => by have e' : (T.e.set p s).length = 0 := e; rw [List.length_set] at e'; exact absurd e' h0, h.by', by simpa using h.be, by simpa using h.mt⟩
  show Blk _ z (tbR ti ma gy ge T.y.length (T.e.set p s).length T.m) _
  rw [List.length_set]
  exact (setR_other _ _ _ _ hz).trans h.blk
end
end RR
end Go.Proofs.Ytnknjcnbbljagaa

/- The document's table in memory: lay. -/
namespace Go.Proofs.Ytnknjcnbbljagaa
set_option linter.unusedVariables false
set_option linter.unusedSimpArgs false
namespace RR
set_option maxRecDepth 100000
open Go.RowKit

section
variable {z gy ge : Nat} {ti ma : Int} {T : TR}
/-- What a lay's look has come to: no place yet, or this one. -/
def LkR (T : TR) (h : Nat) (k : KR) (v : Int) (n j : Nat) (t : Int) : Prop := (t = -1 ∧ lay T.y h k v = lyg T.y h k v (n - j) j) ∨ ∃ p : Nat, t = (p : Int) ∧ p < n ∧ lay T.y h k v = T.y.set p (.ful k v)
theorem lay_any (w : World) (H : TbR w z gy ge ti ma T) (k : KR) (v : Int) : Calls Try.prog 86 #[.pointer (some ⟨z, 0, none⟩), .int .i64 k.1, .int .i64 k.2, .int .i64 v] w fun e w' => e = .returned (.tuple #[]) ∧ ∃ q, (lay T.y (hsR ti ma k) k v = T.y ∧ w' = w.drewN q) ∨ ∃ p, p < T.y.length ∧ lay T.y (hsR ti ma k) k v = T.y.set p (.ful k v) ∧ w' = setR (w.drewN q) gy p (.ful k v) := by
  obtain ⟨h, hh⟩ : ∃ h, h = hsh ti ma k.1 := ⟨_, rfl⟩
  obtain ⟨n, hn⟩ : ∃ n, n = T.y.length := ⟨_, rfl⟩
  have hnb := H.by'
  have HW := hide (fun q i hi => place_any (w.drewN q) z T.y.length T.y.length (some ⟨gy, 0, none⟩) ti ma k.1 i H.c0 H.c1 H.by' hi)
  rw [← hh, ← hn] at HW
  rw [show hsR ti ma k = h from hh.symm, ← hn]
  have c2 := H.c2
  rw [← hn] at c2 hnb
  have hg := H.ry.lt
  have hz := H.blk.lt
  have HR := hide H.ry
  have HL := hide hn
  have HFz : Hid (∀ o, w.frozen? ⟨gy, o, none⟩ = false) := hide (fun o => by obtain ⟨cur, hb, _⟩ := H.ry.row; exact hb.frozen o)
  have HCs : Hid (∀ p, p < n → w.cell? ⟨gy, p * 4, none⟩ = some (.int .i64 ((sat T.y p).st : Int))) := hide (fun p hp => H.ry.c0 p (by omega))
  have HC4 : Hid (∀ p, p < n → w.cell? ⟨gy, p * 4, none⟩ = some (.int .i64 ((sat T.y p).st : Int)) ∧ w.cell? ⟨gy, p * 4 + 1, none⟩ = some (.int .i64 (kR (sat T.y p))) ∧ w.cell? ⟨gy, p * 4 + 2, none⟩ = some (.int .i64 (tR (sat T.y p))) ∧ w.cell? ⟨gy, p * 4 + 3, none⟩ = some (.int .i64 (vR (sat T.y p)))) := hide (fun p hp => ⟨H.ry.c0 p (by omega), H.ry.c1 p (by omega), H.ry.c2 p (by omega), H.ry.c3 p (by omega)⟩)
  clear H hh hn
  have hs0 : Hid (LkR T h k v n 0 (-1)) := hide (.inl ⟨rfl, by unfold lay; rw [HL.out]; rfl⟩)
  obtain ⟨kk, tt⟩ := k
  dsimp only at HW ⊢
  go_enter Try.func86, Try.ntmps86
  go_wp2
  go_loopw [8, 9] (fun a t wr => ∃ (j q : Nat) (x : Int), a = .int .i64 x ∧ t = .int .i64 j ∧ j ≤ n ∧ wr = w.drewN q ∧ Hid (LkR T h (kk, tt) v n j x)) (fun _ t _ => n - (intOf t).toNat)
  case atStart => exact ⟨0, 0, -1, rfl, rfl, Nat.zero_le _, rfl, hs0⟩
  case round =>
    clear hs0
    obtain ⟨j, q, x, rfl, rfl, hj, rfl, hq⟩ := hrel
    by_cases hlt : j < n
    · have hji : (j : Int) < (n : Int) := by omega
      have hpl : (h + j) % n < n := Nat.mod_lt _ (by omega)
      have HWj := hide (HW.out q j hlt)
      obtain ⟨p, hp⟩ : ∃ p, p = (h + j) % n := ⟨_, rfl⟩
      have HP : Hid ((h + j) % T.y.length = p) := hide (by rw [← HL.out, hp])
      rw [← hp] at hpl HWj
      have d0 := HCs.out p hpl
      have hpi : (p : Int) < (n : Int) := by omega
      have hp0 : (0 : Int) ≤ (p : Int) := by omega
      have hp1 : ¬ (p : Int) < 0 := by omega
      have HPL := hide hpl
      clear hp
      rcases hq.out with ⟨rfl, hq1⟩ | ⟨p0, rfl, hq2, hq3⟩
      · have HQ : Hid (lay T.y h (kk, tt) v = lyg T.y h (kk, tt) v (n - (j + 1) + 1) j) := hide (by rw [hq1, show n - j = (n - (j + 1)) + 1 by omega])
        clear hq hq1
        cases hs : sat T.y p with
        | emp =>
          rw [hs] at d0
          have HF : Hid (lay T.y h (kk, tt) v = T.y.set p (.ful (kk, tt) v)) := hide (by rw [HQ.out, lyg_emp (by rw [HP.out]; exact hs), HP.out])
          have e0 : (((Slt.emp : SR).st : Nat) : Int) = 0 := rfl
          rw [e0] at d0
          have HD := hide (HC4.out p HPL.out)
          clear hs HQ e0
          have g0 := HFz.out (p * 4)
          have g1 := HFz.out (p * 4 + 1)
          have g2 := HFz.out (p * 4 + 2)
          have g3 := HFz.out (p * 4 + 3)
          have z0 := HD.out.1
          have z1 := HD.out.2.1
          have z2 := HD.out.2.2.1
          have z3 := HD.out.2.2.2
          go_wp2_with (go_at_call 98; refine HWj.out.mono ?_; rintro e w' ⟨rfl, q1, hw⟩; rw [hw]; clear hw)
          go_returns
          exact ⟨rfl, _, .inr ⟨p, HPL.out, HF.out, rfl⟩⟩
        | tmb =>
          rw [hs] at d0
          have HF : Hid (lay T.y h (kk, tt) v = T.y.set p (.ful (kk, tt) v)) := hide (by rw [HQ.out, lyg_tmb (by rw [HP.out]; exact hs), HP.out])
          have e0 : (((Slt.tmb : SR).st : Nat) : Int) = 2 := rfl
          rw [e0] at d0
          clear hs HQ e0
          go_wp2_with (go_at_call 98; refine HWj.out.mono ?_; rintro e w' ⟨rfl, q1, hw⟩; rw [hw]; clear hw)
          go_roundw
          case rel => exact ⟨j + 1, _, p, rfl, by go_num, by omega, rfl, hide (.inr ⟨p, rfl, HPL.out, HF.out⟩)⟩
          case measure => simp [intOf]; omega
        | ful k' v' =>
          rw [hs] at d0
          have HF : Hid (lay T.y h (kk, tt) v = lyg T.y h (kk, tt) v (n - (j + 1)) (j + 1)) := hide (by rw [HQ.out, lyg_ful (by rw [HP.out]; exact hs)])
          have e0 : (((Slt.ful k' v' : SR).st : Nat) : Int) = 1 := rfl
          rw [e0] at d0
          clear hs HQ e0
          go_wp2_with (go_at_call 98; refine HWj.out.mono ?_; rintro e w' ⟨rfl, q1, hw⟩; rw [hw]; clear hw)
          go_roundw
          case rel => exact ⟨j + 1, _, -1, rfl, by go_num, by omega, rfl, hide (.inl ⟨rfl, HF.out⟩)⟩
          case measure => simp [intOf]; omega
      · have HF := hide hq3
        have HQ2 := hide hq2
        have hpi2 : (p0 : Int) < (n : Int) := by omega
        have hp02 : (0 : Int) ≤ (p0 : Int) := by omega
        have hp12 : ¬ (p0 : Int) < 0 := by omega
        clear hq hq3
        cases hs : sat T.y p with
        | emp =>
          rw [hs] at d0
          have e0 : (((Slt.emp : SR).st : Nat) : Int) = 0 := rfl
          rw [e0] at d0
          have HD := hide (HC4.out p0 HQ2.out)
          clear hs e0
          have g0 := HFz.out (p0 * 4)
          have g1 := HFz.out (p0 * 4 + 1)
          have g2 := HFz.out (p0 * 4 + 2)
          have g3 := HFz.out (p0 * 4 + 3)
          have z0 := HD.out.1
          have z1 := HD.out.2.1
          have z2 := HD.out.2.2.1
          have z3 := HD.out.2.2.2
          go_wp2_with (go_at_call 98; refine HWj.out.mono ?_; rintro e w' ⟨rfl, q1, hw⟩; rw [hw]; clear hw)
          go_returns
          exact ⟨rfl, _, .inr ⟨p0, HQ2.out, HF.out, rfl⟩⟩
        | tmb =>
          rw [hs] at d0
          have e0 : (((Slt.tmb : SR).st : Nat) : Int) = 2 := rfl
          rw [e0] at d0
          clear hs e0
          go_wp2_with (go_at_call 98; refine HWj.out.mono ?_; rintro e w' ⟨rfl, q1, hw⟩; rw [hw]; clear hw)
          go_roundw
          case rel => exact ⟨j + 1, _, p0, rfl, by go_num, by omega, rfl, hide (.inr ⟨p0, rfl, HQ2.out, HF.out⟩)⟩
          case measure => simp [intOf]; omega
        | ful k' v' =>
          rw [hs] at d0
          have e0 : (((Slt.ful k' v' : SR).st : Nat) : Int) = 1 := rfl
          rw [e0] at d0
          clear hs e0
          go_wp2_with (go_at_call 98; refine HWj.out.mono ?_; rintro e w' ⟨rfl, q1, hw⟩; rw [hw]; clear hw)
          go_roundw
          case rel => exact ⟨j + 1, _, p0, rfl, by go_num, by omega, rfl, hide (.inr ⟨p0, rfl, HQ2.out, HF.out⟩)⟩
          case measure => simp [intOf]; omega
    · have hji : ¬ (j : Int) < (n : Int) := by omega
      rcases hq.out with ⟨rfl, hq1⟩ | ⟨p0, rfl, hq2, hq3⟩
      · have HF : Hid (lay T.y h (kk, tt) v = T.y) := hide (by rw [hq1, show n - j = 0 by omega]; rfl)
        clear hq hq1
        go_wp2
        go_returns
        exact ⟨rfl, _, .inl ⟨HF.out, rfl⟩⟩
      · have HF := hide hq3
        have HQ2 := hide hq2
        have hpi2 : (p0 : Int) < (n : Int) := by omega
        have hp02 : (0 : Int) ≤ (p0 : Int) := by omega
        have hp12 : ¬ (p0 : Int) < 0 := by omega
        have HD := hide (HC4.out p0 HQ2.out)
        clear hq hq3
        have g0 := HFz.out (p0 * 4)
        have g1 := HFz.out (p0 * 4 + 1)
        have g2 := HFz.out (p0 * 4 + 2)
        have g3 := HFz.out (p0 * 4 + 3)
        have z0 := HD.out.1
        have z1 := HD.out.2.1
        have z2 := HD.out.2.2.1
        have z3 := HD.out.2.2.2
        go_wp2
        go_returns
        exact ⟨rfl, _, .inr ⟨p0, HQ2.out, HF.out, rfl⟩⟩
end
end RR
end Go.Proofs.Ytnknjcnbbljagaa
