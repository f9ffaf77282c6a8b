/- The hash; seek; a new table. -/
import Derived.Test.YtnknjcnbbljagaaTI4
import Derived.Deep.RegionWith
namespace Go.Proofs.Ytnknjcnbbljagaa
set_option linter.unusedVariables false
set_option linter.unusedSimpArgs false
set_option maxRecDepth 100000
open Go.RowKit

/-- A key's number. -/
def hsh (ti ma k : Int) : Nat := (IntKind.u64.wrap (bits .and .i64 (wrap64 (k * ti)) ma)).toNat
theorem hsh_lt (ti ma k : Int) : hsh ti ma k < 18446744073709551616 := by
  unfold hsh
  simp [IntKind.wrap, IntKind.bits, IntKind.signed]
  omega
theorem hash_any (w : World) (k ti ma : Int) : Calls Try.prog 10 #[.int .i64 k, .int .i64 ti, .int .i64 ma] w fun e w' => e = .returned (.int .u64 (hsh ti ma k : Int)) ∧ w' = w := by
  have HS : Hid (IntKind.u64.wrap (bits .and .i64 (wrap64 (k * ti)) ma) = (hsh ti ma k : Int)) := hide (by
    unfold hsh
    simp [IntKind.wrap, IntKind.bits, IntKind.signed]
    omega)
  go_enter Try.func10, Try.ntmps10
  go_wp2
  rw [HS.out]
  go_ret
  exact ⟨rfl, rfl⟩
/-- The hash's closure: its two variables. -/
structure HsAt (w : World) (F bt bm : Nat) (ti ma : Int) : Prop where
  t : Blk w bt #[.int .i64 ti] 3
  m : Blk w bm #[.int .i64 ma] 3
  f : F = 13 ∨ F = 9
theorem hs_any (w : World) (F bt bm : Nat) (ti ma : Int) (h : HsAt w F bt bm ti ma) (k : Int) : Calls Try.prog F #[.int .i64 k, .pointer (some ⟨bt, 0, none⟩), .pointer (some ⟨bm, 0, none⟩)] w fun e w' => e = .returned (.int .u64 (hsh ti ma k : Int)) ∧ w' = w := by
  have c0 : w.cell? ⟨bt, 0, none⟩ = some (.int .i64 ti) := by rw [h.t.cell]; rfl
  have c1 : w.cell? ⟨bm, 0, none⟩ = some (.int .i64 ma) := by rw [h.m.cell]; rfl
  have h0 := h.t.lt
  have h1 := h.m.lt
  have HH := hide (hash_any w k ti ma)
  rcases h.f with rfl | rfl
  · clear h
    go_enter Try.func13, Try.ntmps13
    go_wp2_with (go_at_call 10; refine HH.out.mono ?_; rintro e w' ⟨rfl, hw⟩; rw [hw]; clear hw)
    go_ret
    exact ⟨rfl, rfl⟩
  · clear h
    go_enter Try.func9, Try.ntmps9
    go_wp2_with (go_at_call 10; refine HH.out.mono ?_; rintro e w' ⟨rfl, hw⟩; rw [hw]; clear hw)
    go_ret
    exact ⟨rfl, rfl⟩
section
variable {z gy ge : Nat} {hv : Value} {T : TB}
theorem HsAt.frm {w w' : World} {F bt bm : Nat} {ti ma : Int} (h : HsAt w F bt bm ti ma) (H : TbAt w z gy ge hv T) (hf : Frm w w' (TbB z gy ge)) : HsAt w' F bt bm ti ma := by
  have key : ∀ b x, Blk w b #[x] 3 → ¬ TbB z gy ge b := by
    intro b x hb hk
    have row : ∀ g L, RowAt w g L → b ≠ g := by
      intro g L hr e
      obtain ⟨cur, hc, _⟩ := hr.row
      rw [← e] at hc
      unfold Blk at hb hc
      rw [hb] at hc
      cases hc
    rcases hk with e | e | e
    · have hz := H.blk
      rw [← e] at hz
      unfold Blk at hb hz
      rw [hb] at hz
      cases hz
    · exact row _ _ H.ry e
    · by_cases h0 : T.e.length = 0
      · exact row _ _ H.ry (by rw [e, H.nil h0])
      · exact row _ _ (H.re h0) e
  exact ⟨(hf.block bt h.t.lt (key _ _ h.t)).trans h.t, (hf.block bm h.m.lt (key _ _ h.m)).trans h.m, h.f⟩
theorem HsAt.drewN {w : World} {F bt bm : Nat} {ti ma : Int} (h : HsAt w F bt bm ti ma) (n : Nat) : HsAt (w.drewN n) F bt bm ti ma := ⟨h.t, h.m, h.f⟩
def seekV (z : Nat) (r : Option (Bool × Nat) × Nat) : Value := match r with
  | (some (false, p), n) => .tuple #[.pointer (some ⟨z, 1, none⟩), .int .i64 (p : Int), .int .i64 (n : Int)]
  | (some (true, p), n) => .tuple #[.pointer (some ⟨z, 4, none⟩), .int .i64 (p : Int), .int .i64 (n : Int)]
  | (none, n) => .tuple #[.pointer none, .int .i64 0, .int .i64 (n : Int)]
theorem fnd_le {K V : Type} (eq : K → K → Bool) (L : List (Slt K V)) (h : Nat) (k : K) (f i : Nat) : (fnd eq L h k f i).2 ≤ i + f := by
  induction f generalizing i with
  | zero => simp [fnd]
  | succ f ih =>
    unfold fnd
    split
    · show i + 1 ≤ _; omega
    · split
      · show i + 1 ≤ _; omega
      · have := ih (i + 1); omega
    · have := ih (i + 1); omega
theorem find_le {K V : Type} (eq : K → K → Bool) (L : List (Slt K V)) (h : Nat) (k : K) : (find eq L h k).2 ≤ L.length := by have := fnd_le eq L h k L.length 0; unfold find; omega
theorem seek_any (w : World) (H : TbAt w z gy ge hv T) (hs : Int → Nat) (k : Int) (hh : hs k < 18446744073709551616) :
    Calls Try.prog 63 #[.pointer (some ⟨z, 0, none⟩), .int .u64 (hs k : Int), .int .i64 k] w fun e w' => e = .returned (seekV z (seek eqK hs T k)) ∧ ∃ q, w' = w.drewN q := by
  have HY := hide (findY_any w H (hs k) k hh)
  have HE := hide (fun n => findE_any (w.drewN n) (H.drewN n) (hs k) k hh)
  have l1 := find_le eqK T.y (hs k) k
  have l2 := find_le eqK T.e (hs k) k
  have b := H.b43
  have hz := H.blk.lt
  cases hy : find eqK T.y (hs k) k with
  | mk oy ny =>
    rw [hy] at HY l1
    cases oy with
    | some p =>
      have HS : Hid (seek eqK hs T k = (some (false, p), ny)) := hide (by unfold seek; rw [hy])
      have hp0 : (0 : Int) ≤ (p : Int) := by omega
      clear H hy HE l1 l2 b
      go_enter Try.func63, Try.ntmps63
      go_wp2_with (go_at_call 89; refine HY.out.mono ?_; rintro e w' ⟨rfl, q, hw⟩; rw [hw]; clear hw; unfold fndV)
      go_ret3
      exact ⟨by rw [HS.out]; rfl, _, rfl⟩
    | none =>
      cases he : find eqK T.e (hs k) k with
      | mk oe ne =>
        rw [he] at HE l2
        have hny : ny ≤ 8796093022208 := by have : ny ≤ T.y.length := l1; omega
        have hne : ne ≤ 8796093022208 := by have : ne ≤ T.e.length := l2; omega
        cases oe with
        | some p =>
          have HS : Hid (seek eqK hs T k = (some (true, p), ny + ne)) := hide (by unfold seek; rw [hy]; simp only []; rw [he])
          clear H hy he l1 l2 b
          go_enter Try.func63, Try.ntmps63
          go_upto_region 2 with (go_at_call 89; refine HY.out.mono ?_; rintro e w' ⟨rfl, q, hw⟩; rw [hw]; clear hw; unfold fndV)
          have HEq := hide (HE.out q)
          clear HE HY
          go_wp2_with (go_at_call 89; refine HEq.out.mono ?_; rintro e w' ⟨rfl, q2, hw⟩; rw [hw]; clear hw; unfold fndV)
          go_ret3
          exact ⟨by rw [HS.out]; unfold seekV; simp, _, rfl⟩
        | none =>
          have HS : Hid (seek eqK hs T k = (none, ny + ne)) := hide (by unfold seek; rw [hy]; simp only []; rw [he])
          clear H hy he l1 l2 b
          go_enter Try.func63, Try.ntmps63
          go_upto_region 2 with (go_at_call 89; refine HY.out.mono ?_; rintro e w' ⟨rfl, q, hw⟩; rw [hw]; clear hw; unfold fndV)
          have HEq := hide (HE.out q)
          clear HE HY
          go_wp2_with (go_at_call 89; refine HEq.out.mono ?_; rintro e w' ⟨rfl, q2, hw⟩; rw [hw]; clear hw; unfold fndV)
          go_ret3
          exact ⟨by rw [HS.out]; unfold seekV; simp, _, rfl⟩
end
end Go.Proofs.Ytnknjcnbbljagaa
