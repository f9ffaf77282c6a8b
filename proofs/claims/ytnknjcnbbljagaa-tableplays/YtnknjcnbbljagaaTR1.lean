/- The document's table in memory: place, find. -/
import Derived.Test.YtnknjcnbbljagaaTI14
namespace Go.Proofs.Ytnknjcnbbljagaa
set_option linter.unusedVariables false
set_option linter.unusedSimpArgs false
namespace RR
set_option maxRecDepth 100000
open Go.RowKit

/-- A key with its tag: keys are equal when their first parts are. -/
abbrev KR := Int × Int
abbrev SR := Slt KR Int
abbrev TR := Tb KR Int
def eqR (a b : KR) : Bool := a.1 == b.1
def hsR (ti ma : Int) (k : KR) : Nat := hsh ti ma k.1
def kR : SR → Int
  | .ful k _ => k.1
  | .emp => 0
  | .tmb => 0
def tR : SR → Int
  | .ful k _ => k.2
  | .emp => 0
  | .tmb => 0
def vR : SR → Int
  | .ful _ v => v
  | .emp => 0
  | .tmb => 0
/-- A row of the document's slots. -/
structure RowR (w : World) (g : Nat) (L : List SR) : Prop where
  row : ∃ cur, Blk w g cur 145 ∧ cur.size = L.length * 4
  c0 : ∀ p, p < L.length → w.cell? ⟨g, p * 4, none⟩ = some (.int .i64 ((sat L p).st : Int))
  c1 : ∀ p, p < L.length → w.cell? ⟨g, p * 4 + 1, none⟩ = some (.int .i64 (kR (sat L p)))
  c2 : ∀ p, p < L.length → w.cell? ⟨g, p * 4 + 2, none⟩ = some (.int .i64 (tR (sat L p)))
  c3 : ∀ p, p < L.length → w.cell? ⟨g, p * 4 + 3, none⟩ = some (.int .i64 (vR (sat L p)))
theorem RowR.lt {w : World} {g : Nat} {L : List SR} (h : RowR w g L) : g < w.heap.size := by
  obtain ⟨cur, hb, _⟩ := h.row
  exact hb.lt
theorem RowR.same {w w' : World} {g : Nat} {L : List SR} (h : RowR w g L) (hs : w'.heap[g]? = w.heap[g]?) : RowR w' g L := by
  have hc : ∀ o, w'.cell? ⟨g, o, none⟩ = w.cell? ⟨g, o, none⟩ := fun o => by
    obtain ⟨cur, hb, _⟩ := h.row
    have hb' : Blk w' g cur 145 := hs.trans hb
    rw [hb'.cell, hb.cell]
  obtain ⟨cur, hb, hz⟩ := h.row
  exact ⟨⟨cur, hs.trans hb, hz⟩, fun p hp => (hc _).trans (h.c0 p hp), fun p hp => (hc _).trans (h.c1 p hp), fun p hp => (hc _).trans (h.c2 p hp), fun p hp => (hc _).trans (h.c3 p hp)⟩
theorem place_num (h i n : Nat) (hn : n ≤ 8796093022208) (hi : i < n) : wrap64 ((IntKind.u64.wrap ((h : Int) % (n : Int) + (i : Int))).tmod (n : Int)) = (((h + i) % n : Nat) : Int) := by
  have h1 : h % n < n := Nat.mod_lt _ (by omega)
  have h2 : (h + i) % n < n := Nat.mod_lt _ (by omega)
  have e0 : (h : Int) % (n : Int) + (i : Int) = ((h % n + i : Nat) : Int) := by simp
  have e1 : IntKind.u64.wrap ((h % n + i : Nat) : Int) = ((h % n + i : Nat) : Int) := by
    have : h % n + i < 18446744073709551616 := by omega
    generalize h % n + i = x at *
    simp [IntKind.wrap, IntKind.bits, IntKind.signed]; omega
  rw [e0, e1, ← Int.ofNat_tmod, Nat.mod_add_mod, wrap_is]
  exact wrapi64_nat _ (by omega)
theorem place_any (w : World) (z n c : Nat) (ga : Option Addr) (ti ma k : Int) (i : Nat) (c0 : w.cell? ⟨z, 0, none⟩ = some (.int .i64 ti)) (c1 : w.cell? ⟨z, 1, none⟩ = some (.int .i64 ma)) (hn : n ≤ 8796093022208) (hi : i < n) :
    Calls Try.prog 98 #[.pointer (some ⟨z, 0, none⟩), .slice ga n c, .int .i64 k, .int .i64 (i : Int)] w fun e w' => e = .returned (.int .i64 (((hsh ti ma k + i) % n : Nat) : Int)) ∧ ∃ q, w' = w.drewN q := by
  have HH : Hid (∀ q, Calls Try.prog 10 #[.int .i64 k, .int .i64 ti, .int .i64 ma] (w.drewN q) fun e w' => e = .returned (.int .u64 (hsh ti ma k : Int)) ∧ ∃ q', w' = (w.drewN q).drewN q') := hide (fun q => (hash_any (w.drewN q) k ti ma).mono (fun e w' h => ⟨h.1, 0, h.2⟩))
  have hz := World.block_lt_of_cell? w _ c0
  have hn0 : 0 < n := by omega
  have hi2 : i ≤ 8796093022208 := by omega
  have HE := hide (place_num (hsh ti ma k) i n hn hi)
  have hlt := hsh_lt ti ma k
  generalize hsh ti ma k = h at *
  obtain ⟨R, hR⟩ : ∃ R, R = (h + i) % n := ⟨_, rfl⟩
  rw [← hR] at HE ⊢
  clear hR
  go_enter Try.func98, Try.ntmps98
  go_upto_region 1 with fail
  go_quiet ((go_at_call 10; exact Calls.quiet_of (HH.out _)))
  go_wp2
  rw [HE.out]
  go_ret
  exact ⟨rfl, _, rfl⟩
def fndR (r : Option Nat × Nat) : Value := .tuple #[.int .i64 (match r.1 with | some p => (p : Int) | none => -1), .int .i64 (r.2 : Int)]
theorem find_any (w : World) (z n c g : Nat) (ti ma : Int) (L : List SR) (k : KR) (c0 : w.cell? ⟨z, 0, none⟩ = some (.int .i64 ti)) (c1 : w.cell? ⟨z, 1, none⟩ = some (.int .i64 ma)) (hL : L.length = n) (hr : RowR w g L) (hn : n ≤ 8796093022208) :
    Calls Try.prog 85 #[.pointer (some ⟨z, 0, none⟩), .slice (some ⟨g, 0, none⟩) n c, .int .i64 k.1] w fun e w' => e = .returned (fndR (find eqR L (hsR ti ma k) k)) ∧ ∃ q, w' = w.drewN q := by
  obtain ⟨h, hh⟩ : ∃ h, h = hsh ti ma k.1 := ⟨_, rfl⟩
  have HW := hide (fun q i hi => place_any (w.drewN q) z n c (some ⟨g, 0, none⟩) ti ma k.1 i c0 c1 hn hi)
  rw [← hh] at HW
  rw [show hsR ti ma k = h from hh.symm]
  have hg := hr.lt
  have hz := World.block_lt_of_cell? w _ c0
  have HR := hide hr
  have HL := hide hL
  obtain ⟨kk, tt⟩ := k
  dsimp only at HW ⊢
  clear hr hL hh c0 c1
  go_enter Try.func85, Try.ntmps85
  go_wp2
  go_loopw [8] (fun t wr => ∃ j q : Nat, t = .int .i64 j ∧ j ≤ n ∧ wr = w.drewN q ∧ Hid (find eqR L h (kk, tt) = fnd eqR L h (kk, tt) (n - j) j)) (fun t _ => n - (intOf t).toNat)
  case atStart => exact ⟨0, 0, rfl, Nat.zero_le _, rfl, hide (by unfold find; rw [HL.out]; rfl)⟩
  case round =>
    obtain ⟨j, q, rfl, hj, rfl, hq⟩ := hrel
    by_cases hlt : j < n
    · have hji : (j : Int) < (n : Int) := by omega
      have hpl : (h + j) % n < n := Nat.mod_lt _ (by omega)
      have HWj := hide (HW.out q j hlt)
      have HQ : Hid (find eqR L h (kk, tt) = fnd eqR L h (kk, tt) (n - (j + 1) + 1) j) := hide (by rw [hq.out, show n - j = (n - (j + 1)) + 1 by omega])
      obtain ⟨p, hp⟩ : ∃ p, p = (h + j) % n := ⟨_, rfl⟩
      have HP : Hid ((h + j) % L.length = p) := hide (by rw [HL.out, hp])
      rw [← hp] at hpl HWj
      have d0 := HR.out.c0 p (by rw [HL.out]; exact hpl)
      have d1 := HR.out.c1 p (by rw [HL.out]; exact hpl)
      have hpi : (p : Int) < (n : Int) := by omega
      clear hq hp
      cases hs : sat L p with
      | emp =>
        rw [hs] at d0 d1
        have HF : Hid (find eqR L h (kk, tt) = (none, j + 1)) := hide (by rw [HQ.out]; exact fnd_emp (by rw [HP.out]; exact hs))
        have e0 : (((Slt.emp : SR).st : Nat) : Int) = 0 := rfl
        rw [e0] at d0
        clear hs HQ e0
        go_wp2_with (go_at_call 98; refine HWj.out.mono ?_; rintro e w' ⟨rfl, q1, hw⟩; rw [hw]; clear hw)
        go_returns
        exact ⟨by rw [HF.out]; rfl, _, rfl⟩
      | tmb =>
        rw [hs] at d0 d1
        have HF : Hid (find eqR L h (kk, tt) = fnd eqR L h (kk, tt) (n - (j + 1)) (j + 1)) := hide (by rw [HQ.out]; exact fnd_tmb (by rw [HP.out]; exact hs))
        have e0 : (((Slt.tmb : SR).st : Nat) : Int) = 2 := rfl
        rw [e0] at d0
        clear hs HQ e0
        go_wp2_with (go_at_call 98; refine HWj.out.mono ?_; rintro e w' ⟨rfl, q1, hw⟩; rw [hw]; clear hw)
        go_roundw
        case rel => exact ⟨j + 1, _, by go_num, by omega, rfl, HF⟩
        case measure => simp [intOf]; omega
      | ful k' v' =>
        rw [hs] at d0 d1
        have e0 : (((Slt.ful k' v' : SR).st : Nat) : Int) = 1 := rfl
        have e1 : kR (Slt.ful k' v') = k'.1 := rfl
        rw [e0] at d0
        rw [e1] at d1
        cases he : eqR k' (kk, tt) with
        | true =>
          have HF : Hid (find eqR L h (kk, tt) = (some p, j + 1)) := hide (by rw [HQ.out, fnd_yes (by rw [HP.out]; exact hs) he, HP.out])
          have hb : (k'.1 == kk) = true := he
          clear hs HQ e0 e1 he
          go_wp2_with (go_at_call 98; refine HWj.out.mono ?_; rintro e w' ⟨rfl, q1, hw⟩; rw [hw]; clear hw)
          go_returns
          exact ⟨by rw [HF.out]; rfl, _, rfl⟩
        | false =>
          have HF : Hid (find eqR L h (kk, tt) = fnd eqR L h (kk, tt) (n - (j + 1)) (j + 1)) := hide (by rw [HQ.out]; exact fnd_no (by rw [HP.out]; exact hs) he)
          have hb : (k'.1 == kk) = false := he
          clear hs HQ e0 e1 he
          go_wp2_with (go_at_call 98; refine HWj.out.mono ?_; rintro e w' ⟨rfl, q1, hw⟩; rw [hw]; clear hw)
          go_roundw
          case rel => exact ⟨j + 1, _, by go_num, by omega, rfl, HF⟩
          case measure => simp [intOf]; omega
    · have hji : ¬ (j : Int) < (n : Int) := by omega
      have HF : Hid (find eqR L h (kk, tt) = (none, n)) := hide (by rw [hq.out, show j = n by omega, Nat.sub_self]; rfl)
      clear hq
      go_wp2
      go_returns
      exact ⟨by rw [HF.out]; rfl, _, rfl⟩
end RR
end Go.Proofs.Ytnknjcnbbljagaa
