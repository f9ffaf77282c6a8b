/- The document's table in memory: lay. -/
import Derived.Test.YtnknjcnbbljagaaTR5
namespace Go.Proofs.Ytnknjcnbbljagaa
set_option linter.unusedVariables false
set_option linter.unusedSimpArgs false
namespace RR
set_option maxRecDepth 100000
open Go.RowKit

section
variable {z gy ge : Nat} {ti ma : Int} {T : TR}
/-- What a lay's look has come to: no place yet, or this one. -/
def LkR (T : TR) (h : Nat) (k : KR) (v : Int) (n j : Nat) (t : Int) : Prop := (t = -1 ∧ lay T.y h k v = lyg T.y h k v (n - j) j) ∨ ∃ p : Nat, t = (p : Int) ∧ p < n ∧ lay T.y h k v = T.y.set p (.ful k v)
theorem lay_any (w : World) (H : TbR w z gy ge ti ma T) (k : KR) (v : Int) : Calls Try.prog 86 #[.pointer (some ⟨z, 0, none⟩), .int .i64 k.1, .int .i64 k.2, .int .i64 v] w fun e w' => e = .returned (.tuple #[]) ∧ ∃ q, (lay T.y (hsR ti ma k) k v = T.y ∧ w' = w.drewN q) ∨ ∃ p, p < T.y.length ∧ lay T.y (hsR ti ma k) k v = T.y.set p (.ful k v) ∧ w' = setR (w.drewN q) gy p (.ful k v) := by
  obtain ⟨h, hh⟩ : ∃ h, h = hsh ti ma k.1 := ⟨_, rfl⟩
  obtain ⟨n, hn⟩ : ∃ n, n = T.y.length := ⟨_, rfl⟩
  have hnb := H.by'
  have HW := hide (fun q i hi => place_any (w.drewN q) z T.y.length T.y.length (some ⟨gy, 0, none⟩) ti ma k.1 i H.c0 H.c1 H.by' hi)
  rw [← hh, ← hn] at HW
  rw [show hsR ti ma k = h from hh.symm, ← hn]
  have c2 := H.c2
  rw [← hn] at c2 hnb
  have hg := H.ry.lt
  have hz := H.blk.lt
  have HR := hide H.ry
  have HL := hide hn
  have HFz : Hid (∀ o, w.frozen? ⟨gy, o, none⟩ = false) := hide (fun o => by obtain ⟨cur, hb, _⟩ := H.ry.row; exact hb.frozen o)
  have HCs : Hid (∀ p, p < n → w.cell? ⟨gy, p * 4, none⟩ = some (.int .i64 ((sat T.y p).st : Int))) := hide (fun p hp => H.ry.c0 p (by omega))
  have HC4 : Hid (∀ p, p < n → w.cell? ⟨gy, p * 4, none⟩ = some (.int .i64 ((sat T.y p).st : Int)) ∧ w.cell? ⟨gy, p * 4 + 1, none⟩ = some (.int .i64 (kR (sat T.y p))) ∧ w.cell? ⟨gy, p * 4 + 2, none⟩ = some (.int .i64 (tR (sat T.y p))) ∧ w.cell? ⟨gy, p * 4 + 3, none⟩ = some (.int .i64 (vR (sat T.y p)))) := hide (fun p hp => ⟨H.ry.c0 p (by omega), H.ry.c1 p (by omega), H.ry.c2 p (by omega), H.ry.c3 p (by omega)⟩)
  clear H hh hn
  have hs0 : Hid (LkR T h k v n 0 (-1)) := hide (.inl ⟨rfl, by unfold lay; rw [HL.out]; rfl⟩)
  obtain ⟨kk, tt⟩ := k
  dsimp only at HW ⊢
  go_enter Try.func86, Try.ntmps86
  go_wp2
  go_loopw [8, 9] (fun a t wr => ∃ (j q : Nat) (x : Int), a = .int .i64 x ∧ t = .int .i64 j ∧ j ≤ n ∧ wr = w.drewN q ∧ Hid (LkR T h (kk, tt) v n j x)) (fun _ t _ => n - (intOf t).toNat)
  case atStart => exact ⟨0, 0, -1, rfl, rfl, Nat.zero_le _, rfl, hs0⟩
  case round =>
    clear hs0
    obtain ⟨j, q, x, rfl, rfl, hj, rfl, hq⟩ := hrel
    by_cases hlt : j < n
    · have hji : (j : Int) < (n : Int) := by omega
      have hpl : (h + j) % n < n := Nat.mod_lt _ (by omega)
      have HWj := hide (HW.out q j hlt)
      obtain ⟨p, hp⟩ : ∃ p, p = (h + j) % n := ⟨_, rfl⟩
      have HP : Hid ((h + j) % T.y.length = p) := hide (by rw [← HL.out, hp])
      rw [← hp] at hpl HWj
      have d0 := HCs.out p hpl
      have hpi : (p : Int) < (n : Int) := by omega
      have hp0 : (0 : Int) ≤ (p : Int) := by omega
      have hp1 : ¬ (p : Int) < 0 := by omega
      have HPL := hide hpl
      clear hp
      rcases hq.out with ⟨rfl, hq1⟩ | ⟨p0, rfl, hq2, hq3⟩
      · have HQ : Hid (lay T.y h (kk, tt) v = lyg T.y h (kk, tt) v (n - (j + 1) + 1) j) := hide (by rw [hq1, show n - j = (n - (j + 1)) + 1 by omega])
        clear hq hq1
        cases hs : sat T.y p with
        | emp =>
          rw [hs] at d0
          have HF : Hid (lay T.y h (kk, tt) v = T.y.set p (.ful (kk, tt) v)) := hide (by rw [HQ.out, lyg_emp (by rw [HP.out]; exact hs), HP.out])
          have e0 : (((Slt.emp : SR).st : Nat) : Int) = 0 := rfl
          rw [e0] at d0
          have HD := hide (HC4.out p HPL.out)
          clear hs HQ e0
          have g0 := HFz.out (p * 4)
          have g1 := HFz.out (p * 4 + 1)
          have g2 := HFz.out (p * 4 + 2)
          have g3 := HFz.out (p * 4 + 3)
          have z0 := HD.out.1
          have z1 := HD.out.2.1
          have z2 := HD.out.2.2.1
          have z3 := HD.out.2.2.2
          go_wp2_with (go_at_call 98; refine HWj.out.mono ?_; rintro e w' ⟨rfl, q1, hw⟩; rw [hw]; clear hw)
          go_returns
          exact ⟨rfl, _, .inr ⟨p, HPL.out, HF.out, rfl⟩⟩
        | tmb =>
          rw [hs] at d0
          have HF : Hid (lay T.y h (kk, tt) v = T.y.set p (.ful (kk, tt) v)) := hide (by rw [HQ.out, lyg_tmb (by rw [HP.out]; exact hs), HP.out])
          have e0 : (((Slt.tmb : SR).st : Nat) : Int) = 2 := rfl
          rw [e0] at d0
          clear hs HQ e0
          go_wp2_with (go_at_call 98; refine HWj.out.mono ?_; rintro e w' ⟨rfl, q1, hw⟩; rw [hw]; clear hw)
          go_roundw
          case rel => exact ⟨j + 1, _, p, rfl, by go_num, by omega, rfl, hide (.inr ⟨p, rfl, HPL.out, HF.out⟩)⟩
          case measure => simp [intOf]; omega
        | ful k' v' =>
          rw [hs] at d0
          have HF : Hid (lay T.y h (kk, tt) v = lyg T.y h (kk, tt) v (n - (j + 1)) (j + 1)) := hide (by rw [HQ.out, lyg_ful (by rw [HP.out]; exact hs)])
          have e0 : (((Slt.ful k' v' : SR).st : Nat) : Int) = 1 := rfl
          rw [e0] at d0
          clear hs HQ e0
          go_wp2_with (go_at_call 98; refine HWj.out.mono ?_; rintro e w' ⟨rfl, q1, hw⟩; rw [hw]; clear hw)
          go_roundw
          case rel => exact ⟨j + 1, _, -1, rfl, by go_num, by omega, rfl, hide (.inl ⟨rfl, HF.out⟩)⟩
          case measure => simp [intOf]; omega
      · have HF := hide hq3
        have HQ2 := hide hq2
        have hpi2 : (p0 : Int) < (n : Int) := by omega
        have hp02 : (0 : Int) ≤ (p0 : Int) := by omega
        have hp12 : ¬ (p0 : Int) < 0 := by omega
        clear hq hq3
        cases hs : sat T.y p with
        | emp =>
          rw [hs] at d0
          have e0 : (((Slt.emp : SR).st : Nat) : Int) = 0 := rfl
          rw [e0] at d0
          have HD := hide (HC4.out p0 HQ2.out)
          clear hs e0
          have g0 := HFz.out (p0 * 4)
          have g1 := HFz.out (p0 * 4 + 1)
          have g2 := HFz.out (p0 * 4 + 2)
          have g3 := HFz.out (p0 * 4 + 3)
          have z0 := HD.out.1
          have z1 := HD.out.2.1
          have z2 := HD.out.2.2.1
          have z3 := HD.out.2.2.2
          go_wp2_with (go_at_call 98; refine HWj.out.mono ?_; rintro e w' ⟨rfl, q1, hw⟩; rw [hw]; clear hw)
          go_returns
          exact ⟨rfl, _, .inr ⟨p0, HQ2.out, HF.out, rfl⟩⟩
        | tmb =>
          rw [hs] at d0
          have e0 : (((Slt.tmb : SR).st : Nat) : Int) = 2 := rfl
          rw [e0] at d0
          clear hs e0
          go_wp2_with (go_at_call 98; refine HWj.out.mono ?_; rintro e w' ⟨rfl, q1, hw⟩; rw [hw]; clear hw)
          go_roundw
          case rel => exact ⟨j + 1, _, p0, rfl, by go_num, by omega, rfl, hide (.inr ⟨p0, rfl, HQ2.out, HF.out⟩)⟩
          case measure => simp [intOf]; omega
        | ful k' v' =>
          rw [hs] at d0
          have e0 : (((Slt.ful k' v' : SR).st : Nat) : Int) = 1 := rfl
          rw [e0] at d0
          clear hs e0
          go_wp2_with (go_at_call 98; refine HWj.out.mono ?_; rintro e w' ⟨rfl, q1, hw⟩; rw [hw]; clear hw)
          go_roundw
          case rel => exact ⟨j + 1, _, p0, rfl, by go_num, by omega, rfl, hide (.inr ⟨p0, rfl, HQ2.out, HF.out⟩)⟩
          case measure => simp [intOf]; omega
    · have hji : ¬ (j : Int) < (n : Int) := by omega
      rcases hq.out with ⟨rfl, hq1⟩ | ⟨p0, rfl, hq2, hq3⟩
      · have HF : Hid (lay T.y h (kk, tt) v = T.y) := hide (by rw [hq1, show n - j = 0 by omega]; rfl)
        clear hq hq1
        go_wp2
        go_returns
        exact ⟨rfl, _, .inl ⟨HF.out, rfl⟩⟩
      · have HF := hide hq3
        have HQ2 := hide hq2
        have hpi2 : (p0 : Int) < (n : Int) := by omega
        have hp02 : (0 : Int) ≤ (p0 : Int) := by omega
        have hp12 : ¬ (p0 : Int) < 0 := by omega
        have HD := hide (HC4.out p0 HQ2.out)
        clear hq hq3
        have g0 := HFz.out (p0 * 4)
        have g1 := HFz.out (p0 * 4 + 1)
        have g2 := HFz.out (p0 * 4 + 2)
        have g3 := HFz.out (p0 * 4 + 3)
        have z0 := HD.out.1
        have z1 := HD.out.2.1
        have z2 := HD.out.2.2.1
        have z3 := HD.out.2.2.2
        go_wp2
        go_returns
        exact ⟨rfl, _, .inr ⟨p0, HQ2.out, HF.out, rfl⟩⟩
end
end RR
end Go.Proofs.Ytnknjcnbbljagaa
