/- put on an Enc. -/
import Derived.Test.YtinjcefekbpabaaE4
import Derived.Test.YtinjcefekbpabaaO1
namespace Go.Proofs.Ytinjcefekbpabaa
set_option linter.unusedVariables false
set_option linter.unusedSimpArgs false
open Go.RowKit

/-- An Add, as data. -/
structure AddR where
  kind : Int
  N : Nat
  S : List UInt8
  B : List UInt8
  K : List UInt8
/-- The cells of an Add. -/
structure AddIs (w : World) (cs : Array Value) (bv : Value) (a : AddR) : Prop where
  size : cs.size = 36
  c0 : cs[0]? = some (.int .i64 a.kind)
  c1 : cs[1]? = some (.int .u64 a.N)
  c2 : cs[2]? = some (.string ⟨a.S.toArray⟩)
  c3 : cs[3]? = some bv
  rd : RdA w bv a.B
  ck : cs.toList.drop 4 = a.K.map u8c
  kl : a.K.length = 32
  hN : a.N ≤ 18446744073709551615
theorem AddIs.below {w w' : World} {cs : Array Value} {bv : Value} {a : AddR} (h : AddIs w cs bv a) (hb : Below w.heap.size w w') : AddIs w' cs bv a :=
  ⟨h.size, h.c0, h.c1, h.c2, h.c3, h.rd.below hb, h.ck, h.kl, h.hN⟩
theorem AddIs.key {w : World} {cs : Array Value} {bv : Value} {a : AddR} (h : AddIs w cs bv a) (w : World) : (w.alloc (.cells cs 37)).rangeAt w.heap.size 4 (a.K.map u8c) := fun j v hj => by
  rw [(Blk.made w cs 37).cell, ← Array.getElem?_toList, ← List.getElem?_drop, h.ck]
  exact hj

theorem RdA.grown {w w' : World} {v : Value} {xs : List UInt8} {z : Nat} (h : RdA w v xs) (hg : w.grownBy w' (some z)) (hne : ∀ b o l c, v = .slice (some ⟨b, o, none⟩) l c → 0 < c → b ≠ z) : RdA w' v xs := by
  rcases h with ⟨ao, c, e, hc, hm, h | ⟨b, o, rfl, hcell⟩⟩ | h
  · exact .inl ⟨ao, c, e, hc, hm, .inl h⟩
  · refine .inl ⟨_, c, e, hc, hm, .inr ⟨b, o, rfl, fun i hi => ?_⟩⟩
    have h1 := hcell i hi
    have hb := World.block_lt_of_cell? w _ h1
    rw [← h1]
    unfold World.cell?
    simp only
    rw [hg.block b hb (fun e2 => hne _ _ _ _ e (by omega) (Option.some.inj e2))]
  · exact .inr h

/-- The bytes of an add. -/
def addB (a : AddR) : List UInt8 :=
  if a.kind = 1 then varB a.N else if a.kind = 2 then varB a.S.length ++ a.S else if a.kind = 3 then a.B else if a.kind = 4 then a.K
  else if a.kind = 5 ∨ a.kind = 6 then fixB 1 a.N else if a.kind = 7 ∨ a.kind = 8 then fixB 2 a.N else if a.kind = 9 ∨ a.kind = 10 then fixB 4 a.N else if a.kind = 11 ∨ a.kind = 12 then fixB 8 a.N
  else if a.kind = 13 then varB a.B.length ++ a.B else []

theorem fixB_mod : ∀ (n u v : Nat), u % 256 ^ n = v % 256 ^ n → fixB n u = fixB n v
  | 0, _, _, _ => rfl
  | n + 1, u, v, h => by
    have e1 : u % 256 = v % 256 := by
      have := congrArg (· % 256) h
      simp only [Nat.pow_succ, Nat.mul_comm (256 ^ n) 256, Nat.mod_mul_right_mod] at this
      exact this
    have e2 : (u / 256) % 256 ^ n = (v / 256) % 256 ^ n := by
      have := congrArg (· / 256) h
      simp only [Nat.pow_succ, Nat.mul_comm (256 ^ n) 256, Nat.mod_mul_right_div_self] at this
      exact this
    rw [fixB, fixB, fixB_mod n _ _ e2]
    congr 1
    apply UInt8.toNat_inj.1
    simpa using e1

set_option maxRecDepth 20000 in
theorem raw_any (w : World) (X : Nat → Prop) (z : Nat) (xs ys : List UInt8) (v : Value) (h : EncSt w X z xs) (hv : RdA w v ys) (hne : ∀ b o l c, v = .slice (some ⟨b, o, none⟩) l c → 0 < c → b ≠ z) (hlen : xs.length + ys.length ≤ 4611686018427387904) :
    Calls Try.prog 18 #[.pointer (some ⟨z, 0, none⟩), v] w (RawE w X z (xs ++ ys)) := by
  have hv' : (Rd w v ys ∧ ∀ b o l c, v = .slice (some ⟨b, o, none⟩) l c → b ≠ z) ∨ ∃ a, v = .slice (some a) 0 0 ∧ ys = [] := by
    rcases hv with hv | hv
    · obtain ⟨ao, c, e, hc, hm, hh⟩ := hv
      rcases Nat.eq_zero_or_pos c with h0 | hp
      · subst h0
        obtain rfl : ys = [] := List.eq_nil_of_length_eq_zero (by omega)
        rcases ao with _ | a
        · exact .inl ⟨⟨none, 0, e, hc, hm, hh⟩, fun b o l c e2 => by rw [e] at e2; cases e2⟩
        · exact .inr ⟨a, e, rfl⟩
      · exact .inl ⟨⟨ao, c, e, hc, hm, hh⟩, fun b o l c' e2 => hne b o l c' e2 (by rw [e] at e2; cases e2; exact hp)⟩
    · exact .inr hv
  rcases hv' with ⟨hv, hne'⟩ | ⟨a, rfl, rfl⟩
  · exact raw_enc w X z xs ys v h hv hne' hlen
  · have H := hide h
    clear h hne
    go_enter Try.func18, Try.ntmps18
    go_wp2
    go_rounds 1
    go_returns
    exact ⟨rfl, by simpa using H.out, ⟨rfl, rfl, rfl, Nat.le_refl _, fun _ _ _ => rfl⟩⟩

def PutE (w : World) (X : Nat → Prop) (z : Nat) (xs : List UInt8) (e : Ending) (w' : World) : Prop := RawE w X z xs e w'

set_option maxRecDepth 20000 in
set_option maxHeartbeats 800000 in
theorem put_1 (w : World) (X : Nat → Prop) (z : Nat) (xs : List UInt8) (cs : Array Value) (bv : Value) (a : AddR) (hk : a.kind = 1) (ha : AddIs w cs bv a) (h : EncSt w X z xs) (hne : ∀ b o l c, bv = .slice (some ⟨b, o, none⟩) l c → 0 < c → b ≠ z) (hlen : xs.length + a.S.length + a.B.length ≤ 1125899906842624) :
    Calls Try.prog 11 #[.pointer (some ⟨z, 0, none⟩), .agg cs] w (PutE w X z (xs ++ varB a.N)) := by
  have hE := h.alloc (.cells cs 37)
  have hA := ha.below ((Below.refl _ _).alloc (Nat.le_refl _) (.cells cs 37))
  have HC := hide (evar_enc (w.alloc (.cells cs 37)) X z xs a.N ha.hN hE (by omega))
  have HCK := hide (ha.key w)
  have HKL := hide (show (a.K.map u8c).length = 32 by simp [ha.kl])
  have g0 := ha.c0
  rw [hk] at g0
  have g1 := ha.c1
  have g2 := ha.c2
  have g3 := ha.c3
  have hN := ha.hN
  obtain ⟨ao, cap, rfl, hl⟩ := ha.rd.slice
  clear ha h hE hA
  go_enter Try.func11, Try.ntmps11
  go_wp2_with fail
  refine (HC.out).mono ?_
  rintro e w1 ⟨rfl, h1, h2⟩
  have H1 := hide h1
  have H2 := hide h2
  clear h1 h2
  go_wp2
  go_returns
  exact ⟨rfl, H1.out, grownBy_trans (World.grownBy_alloc _ _ _) H2.out⟩

set_option maxRecDepth 20000 in
set_option maxHeartbeats 800000 in
theorem put_2 (w : World) (X : Nat → Prop) (z : Nat) (xs : List UInt8) (cs : Array Value) (bv : Value) (a : AddR) (hk : a.kind = 2) (ha : AddIs w cs bv a) (h : EncSt w X z xs) (hne : ∀ b o l c, bv = .slice (some ⟨b, o, none⟩) l c → 0 < c → b ≠ z) (hlen : xs.length + a.S.length + a.B.length ≤ 1125899906842624) :
    Calls Try.prog 11 #[.pointer (some ⟨z, 0, none⟩), .agg cs] w (PutE w X z (xs ++ (varB a.S.length ++ a.S))) := by
  have hE := h.alloc (.cells cs 37)
  have hA := ha.below ((Below.refl _ _).alloc (Nat.le_refl _) (.cells cs 37))
  have HC := hide (etext_enc (w.alloc (.cells cs 37)) X z xs a.S hE (by omega))
  have HCK := hide (ha.key w)
  have HKL := hide (show (a.K.map u8c).length = 32 by simp [ha.kl])
  have g0 := ha.c0
  rw [hk] at g0
  have g1 := ha.c1
  have g2 := ha.c2
  have g3 := ha.c3
  have hN := ha.hN
  obtain ⟨ao, cap, rfl, hl⟩ := ha.rd.slice
  clear ha h hE hA
  go_enter Try.func11, Try.ntmps11
  go_wp2_with fail
  refine (HC.out).mono ?_
  rintro e w1 ⟨rfl, h1, h2⟩
  have H1 := hide h1
  have H2 := hide h2
  clear h1 h2
  go_wp2
  go_returns
  exact ⟨rfl, by rw [← List.append_assoc]; exact H1.out, grownBy_trans (World.grownBy_alloc _ _ _) H2.out⟩

set_option maxRecDepth 20000 in
set_option maxHeartbeats 800000 in
theorem put_3 (w : World) (X : Nat → Prop) (z : Nat) (xs : List UInt8) (cs : Array Value) (bv : Value) (a : AddR) (hk : a.kind = 3) (ha : AddIs w cs bv a) (h : EncSt w X z xs) (hne : ∀ b o l c, bv = .slice (some ⟨b, o, none⟩) l c → 0 < c → b ≠ z) (hlen : xs.length + a.S.length + a.B.length ≤ 1125899906842624) :
    Calls Try.prog 11 #[.pointer (some ⟨z, 0, none⟩), .agg cs] w (PutE w X z (xs ++ a.B)) := by
  have hE := h.alloc (.cells cs 37)
  have hA := ha.below ((Below.refl _ _).alloc (Nat.le_refl _) (.cells cs 37))
  have HC := hide (raw_any (w.alloc (.cells cs 37)) X z xs a.B bv hE hA.rd hne (by omega))
  have HCK := hide (ha.key w)
  have HKL := hide (show (a.K.map u8c).length = 32 by simp [ha.kl])
  have g0 := ha.c0
  rw [hk] at g0
  have g1 := ha.c1
  have g2 := ha.c2
  have g3 := ha.c3
  have hN := ha.hN
  obtain ⟨ao, cap, rfl, hl⟩ := ha.rd.slice
  clear ha h hE hA
  go_enter Try.func11, Try.ntmps11
  go_wp2_with fail
  refine (HC.out).mono ?_
  rintro e w1 ⟨rfl, h1, h2⟩
  have H1 := hide h1
  have H2 := hide h2
  clear h1 h2
  go_wp2
  go_returns
  exact ⟨rfl, H1.out, grownBy_trans (World.grownBy_alloc _ _ _) H2.out⟩

set_option maxRecDepth 20000 in
set_option maxHeartbeats 800000 in
theorem put_4 (w : World) (X : Nat → Prop) (z : Nat) (xs : List UInt8) (cs : Array Value) (bv : Value) (a : AddR) (hk : a.kind = 4) (ha : AddIs w cs bv a) (h : EncSt w X z xs) (hne : ∀ b o l c, bv = .slice (some ⟨b, o, none⟩) l c → 0 < c → b ≠ z) (hlen : xs.length + a.S.length + a.B.length ≤ 1125899906842624) :
    Calls Try.prog 11 #[.pointer (some ⟨z, 0, none⟩), .agg cs] w (PutE w X z (xs ++ a.K)) := by
  have hE := h.alloc (.cells cs 37)
  have hA := ha.below ((Below.refl _ _).alloc (Nat.le_refl _) (.cells cs 37))
  have HC := hide (ekey_enc (w.alloc (.cells cs 37)) X z xs a.K ha.kl hE (by omega))
  have HCK := hide (ha.key w)
  have HKL := hide (show (a.K.map u8c).length = 32 by simp [ha.kl])
  have g0 := ha.c0
  rw [hk] at g0
  have g1 := ha.c1
  have g2 := ha.c2
  have g3 := ha.c3
  have hN := ha.hN
  obtain ⟨ao, cap, rfl, hl⟩ := ha.rd.slice
  clear ha h hE hA
  obtain ⟨ks, hks⟩ : ∃ ks, ks = a.K.map u8c := ⟨_, rfl⟩
  rw [← hks] at HC HCK HKL
  clear hks
  go_enter Try.func11, Try.ntmps11
  go_wp2_with ((with_reducible refine wpList_load_key ?_ (.tmp 27) ?_ w.heap.size 4 ?_ ks HCK.out HKL.out ?_); rfl; rfl; rfl)
  refine (HC.out).mono ?_
  rintro e w1 ⟨rfl, h1, h2⟩
  have H1 := hide h1
  have H2 := hide h2
  clear h1 h2
  go_wp2
  go_returns
  exact ⟨rfl, H1.out, grownBy_trans (World.grownBy_alloc _ _ _) H2.out⟩

set_option maxRecDepth 20000 in
set_option maxHeartbeats 800000 in
theorem put_5 (w : World) (X : Nat → Prop) (z : Nat) (xs : List UInt8) (cs : Array Value) (bv : Value) (a : AddR) (hk : a.kind = 5) (ha : AddIs w cs bv a) (h : EncSt w X z xs) (hne : ∀ b o l c, bv = .slice (some ⟨b, o, none⟩) l c → 0 < c → b ≠ z) (hlen : xs.length + a.S.length + a.B.length ≤ 1125899906842624) :
    Calls Try.prog 11 #[.pointer (some ⟨z, 0, none⟩), .agg cs] w (PutE w X z (xs ++ fixB 1 a.N)) := by
  have hE := h.alloc (.cells cs 37)
  have hA := ha.below ((Below.refl _ _).alloc (Nat.le_refl _) (.cells cs 37))
  have HC := hide (fun v u hu hv => put_int8 (w.alloc (.cells cs 37)) X z xs v u hu hv hE (by omega))
  have HCK := hide (ha.key w)
  have HKL := hide (show (a.K.map u8c).length = 32 by simp [ha.kl])
  have g0 := ha.c0
  rw [hk] at g0
  have g1 := ha.c1
  have g2 := ha.c2
  have g3 := ha.c3
  have hN := ha.hN
  obtain ⟨ao, cap, rfl, hl⟩ := ha.rd.slice
  clear ha h hE hA
  obtain ⟨u, hu⟩ : ∃ u : Nat, IntKind.u64.wrap (IntKind.i8.wrap (a.N : Int)) = (u : Int) := ⟨_, (Int.toNat_of_nonneg (by rw [IntKind.wrap_u64]; omega)).symm⟩
  have hfix : fixB 1 u = fixB 1 a.N := fixB_mod 1 _ _ (by rw [IntKind.wrap_u64, IntKind.wrap_i8x] at hu; omega)
  have HFX := hide hfix
  clear hfix
  go_enter Try.func11, Try.ntmps11
  go_wp2_with fail
  refine (HC.out _ u (by first | exact hu | (rw [IntWalk.i32_left] at hu; exact hu) | (rw [IntWalk.i64_left] at hu; exact hu)) (by first | exact wf_wrap _ _ | go_wf | (simp [Lit.wf, IntKind.min, IntKind.max, IntKind.signed, IntKind.bits]; omega))).mono ?_
  rintro e w1 ⟨rfl, h1, h2⟩
  have H1 := hide h1
  have H2 := hide h2
  clear h1 h2
  go_wp2
  go_returns
  exact ⟨rfl, by rw [← HFX.out]; exact H1.out, grownBy_trans (World.grownBy_alloc _ _ _) H2.out⟩

set_option maxRecDepth 20000 in
set_option maxHeartbeats 800000 in
theorem put_6 (w : World) (X : Nat → Prop) (z : Nat) (xs : List UInt8) (cs : Array Value) (bv : Value) (a : AddR) (hk : a.kind = 6) (ha : AddIs w cs bv a) (h : EncSt w X z xs) (hne : ∀ b o l c, bv = .slice (some ⟨b, o, none⟩) l c → 0 < c → b ≠ z) (hlen : xs.length + a.S.length + a.B.length ≤ 1125899906842624) :
    Calls Try.prog 11 #[.pointer (some ⟨z, 0, none⟩), .agg cs] w (PutE w X z (xs ++ fixB 1 a.N)) := by
  have hE := h.alloc (.cells cs 37)
  have hA := ha.below ((Below.refl _ _).alloc (Nat.le_refl _) (.cells cs 37))
  have HC := hide (fun u hu => put_uint8 (w.alloc (.cells cs 37)) X z xs u hu hE (by omega))
  have HCK := hide (ha.key w)
  have HKL := hide (show (a.K.map u8c).length = 32 by simp [ha.kl])
  have g0 := ha.c0
  rw [hk] at g0
  have g1 := ha.c1
  have g2 := ha.c2
  have g3 := ha.c3
  have hN := ha.hN
  obtain ⟨ao, cap, rfl, hl⟩ := ha.rd.slice
  clear ha h hE hA
  have hfix : fixB 1 (a.N % 256) = fixB 1 a.N := fixB_mod 1 _ _ (by omega)
  have HFX := hide hfix
  clear hfix
  go_enter Try.func11, Try.ntmps11
  go_wp2_with fail
  refine (HC.out (a.N % 256) (by omega)).mono ?_
  rintro e w1 ⟨rfl, h1, h2⟩
  have H1 := hide h1
  have H2 := hide h2
  clear h1 h2
  go_wp2
  go_returns
  exact ⟨rfl, by rw [← HFX.out]; exact H1.out, grownBy_trans (World.grownBy_alloc _ _ _) H2.out⟩

set_option maxRecDepth 20000 in
set_option maxHeartbeats 800000 in
theorem put_7 (w : World) (X : Nat → Prop) (z : Nat) (xs : List UInt8) (cs : Array Value) (bv : Value) (a : AddR) (hk : a.kind = 7) (ha : AddIs w cs bv a) (h : EncSt w X z xs) (hne : ∀ b o l c, bv = .slice (some ⟨b, o, none⟩) l c → 0 < c → b ≠ z) (hlen : xs.length + a.S.length + a.B.length ≤ 1125899906842624) :
    Calls Try.prog 11 #[.pointer (some ⟨z, 0, none⟩), .agg cs] w (PutE w X z (xs ++ fixB 2 a.N)) := by
  have hE := h.alloc (.cells cs 37)
  have hA := ha.below ((Below.refl _ _).alloc (Nat.le_refl _) (.cells cs 37))
  have HC := hide (fun v u hu hv => put_int16 (w.alloc (.cells cs 37)) X z xs v u hu hv hE (by omega))
  have HCK := hide (ha.key w)
  have HKL := hide (show (a.K.map u8c).length = 32 by simp [ha.kl])
  have g0 := ha.c0
  rw [hk] at g0
  have g1 := ha.c1
  have g2 := ha.c2
  have g3 := ha.c3
  have hN := ha.hN
  obtain ⟨ao, cap, rfl, hl⟩ := ha.rd.slice
  clear ha h hE hA
  obtain ⟨u, hu⟩ : ∃ u : Nat, IntKind.u64.wrap (IntKind.i16.wrap (a.N : Int)) = (u : Int) := ⟨_, (Int.toNat_of_nonneg (by rw [IntKind.wrap_u64]; omega)).symm⟩
  have hfix : fixB 2 u = fixB 2 a.N := fixB_mod 2 _ _ (by rw [IntKind.wrap_u64, IntKind.wrap_i16x] at hu; omega)
  have HFX := hide hfix
  clear hfix
  go_enter Try.func11, Try.ntmps11
  go_wp2_with fail
  refine (HC.out _ u (by first | exact hu | (rw [IntWalk.i32_left] at hu; exact hu) | (rw [IntWalk.i64_left] at hu; exact hu)) (by first | exact wf_wrap _ _ | go_wf | (simp [Lit.wf, IntKind.min, IntKind.max, IntKind.signed, IntKind.bits]; omega))).mono ?_
  rintro e w1 ⟨rfl, h1, h2⟩
  have H1 := hide h1
  have H2 := hide h2
  clear h1 h2
  go_wp2
  go_returns
  exact ⟨rfl, by rw [← HFX.out]; exact H1.out, grownBy_trans (World.grownBy_alloc _ _ _) H2.out⟩

set_option maxRecDepth 20000 in
set_option maxHeartbeats 800000 in
theorem put_8 (w : World) (X : Nat → Prop) (z : Nat) (xs : List UInt8) (cs : Array Value) (bv : Value) (a : AddR) (hk : a.kind = 8) (ha : AddIs w cs bv a) (h : EncSt w X z xs) (hne : ∀ b o l c, bv = .slice (some ⟨b, o, none⟩) l c → 0 < c → b ≠ z) (hlen : xs.length + a.S.length + a.B.length ≤ 1125899906842624) :
    Calls Try.prog 11 #[.pointer (some ⟨z, 0, none⟩), .agg cs] w (PutE w X z (xs ++ fixB 2 a.N)) := by
  have hE := h.alloc (.cells cs 37)
  have hA := ha.below ((Below.refl _ _).alloc (Nat.le_refl _) (.cells cs 37))
  have HC := hide (fun u hu => put_uint16 (w.alloc (.cells cs 37)) X z xs u hu hE (by omega))
  have HCK := hide (ha.key w)
  have HKL := hide (show (a.K.map u8c).length = 32 by simp [ha.kl])
  have g0 := ha.c0
  rw [hk] at g0
  have g1 := ha.c1
  have g2 := ha.c2
  have g3 := ha.c3
  have hN := ha.hN
  obtain ⟨ao, cap, rfl, hl⟩ := ha.rd.slice
  clear ha h hE hA
  have hfix : fixB 2 (a.N % 65536) = fixB 2 a.N := fixB_mod 2 _ _ (by omega)
  have HFX := hide hfix
  clear hfix
  go_enter Try.func11, Try.ntmps11
  go_wp2_with fail
  refine (HC.out (a.N % 65536) (by omega)).mono ?_
  rintro e w1 ⟨rfl, h1, h2⟩
  have H1 := hide h1
  have H2 := hide h2
  clear h1 h2
  go_wp2
  go_returns
  exact ⟨rfl, by rw [← HFX.out]; exact H1.out, grownBy_trans (World.grownBy_alloc _ _ _) H2.out⟩

set_option maxRecDepth 20000 in
set_option maxHeartbeats 800000 in
theorem put_9 (w : World) (X : Nat → Prop) (z : Nat) (xs : List UInt8) (cs : Array Value) (bv : Value) (a : AddR) (hk : a.kind = 9) (ha : AddIs w cs bv a) (h : EncSt w X z xs) (hne : ∀ b o l c, bv = .slice (some ⟨b, o, none⟩) l c → 0 < c → b ≠ z) (hlen : xs.length + a.S.length + a.B.length ≤ 1125899906842624) :
    Calls Try.prog 11 #[.pointer (some ⟨z, 0, none⟩), .agg cs] w (PutE w X z (xs ++ fixB 4 a.N)) := by
  have hE := h.alloc (.cells cs 37)
  have hA := ha.below ((Below.refl _ _).alloc (Nat.le_refl _) (.cells cs 37))
  have HC := hide (fun v u hu hv => put_int32 (w.alloc (.cells cs 37)) X z xs v u hu hv hE (by omega))
  have HCK := hide (ha.key w)
  have HKL := hide (show (a.K.map u8c).length = 32 by simp [ha.kl])
  have g0 := ha.c0
  rw [hk] at g0
  have g1 := ha.c1
  have g2 := ha.c2
  have g3 := ha.c3
  have hN := ha.hN
  obtain ⟨ao, cap, rfl, hl⟩ := ha.rd.slice
  clear ha h hE hA
  obtain ⟨u, hu⟩ : ∃ u : Nat, IntKind.u64.wrap (IntKind.i32.wrap (a.N : Int)) = (u : Int) := ⟨_, (Int.toNat_of_nonneg (by rw [IntKind.wrap_u64]; omega)).symm⟩
  have hfix : fixB 4 u = fixB 4 a.N := fixB_mod 4 _ _ (by rw [IntKind.wrap_u64, IntKind.wrap_i32] at hu; omega)
  have HFX := hide hfix
  clear hfix
  go_enter Try.func11, Try.ntmps11
  go_wp2_with fail
  refine (HC.out _ u (by first | exact hu | (rw [IntWalk.i32_left] at hu; exact hu) | (rw [IntWalk.i64_left] at hu; exact hu)) (by first | exact wf_wrap _ _ | go_wf | (simp [Lit.wf, IntKind.min, IntKind.max, IntKind.signed, IntKind.bits]; omega))).mono ?_
  rintro e w1 ⟨rfl, h1, h2⟩
  have H1 := hide h1
  have H2 := hide h2
  clear h1 h2
  go_wp2
  go_returns
  exact ⟨rfl, by rw [← HFX.out]; exact H1.out, grownBy_trans (World.grownBy_alloc _ _ _) H2.out⟩

set_option maxRecDepth 20000 in
set_option maxHeartbeats 800000 in
theorem put_10 (w : World) (X : Nat → Prop) (z : Nat) (xs : List UInt8) (cs : Array Value) (bv : Value) (a : AddR) (hk : a.kind = 10) (ha : AddIs w cs bv a) (h : EncSt w X z xs) (hne : ∀ b o l c, bv = .slice (some ⟨b, o, none⟩) l c → 0 < c → b ≠ z) (hlen : xs.length + a.S.length + a.B.length ≤ 1125899906842624) :
    Calls Try.prog 11 #[.pointer (some ⟨z, 0, none⟩), .agg cs] w (PutE w X z (xs ++ fixB 4 a.N)) := by
  have hE := h.alloc (.cells cs 37)
  have hA := ha.below ((Below.refl _ _).alloc (Nat.le_refl _) (.cells cs 37))
  have HC := hide (fun u hu => put_uint32 (w.alloc (.cells cs 37)) X z xs u hu hE (by omega))
  have HCK := hide (ha.key w)
  have HKL := hide (show (a.K.map u8c).length = 32 by simp [ha.kl])
  have g0 := ha.c0
  rw [hk] at g0
  have g1 := ha.c1
  have g2 := ha.c2
  have g3 := ha.c3
  have hN := ha.hN
  obtain ⟨ao, cap, rfl, hl⟩ := ha.rd.slice
  clear ha h hE hA
  have hfix : fixB 4 (a.N % 4294967296) = fixB 4 a.N := fixB_mod 4 _ _ (by omega)
  have HFX := hide hfix
  clear hfix
  go_enter Try.func11, Try.ntmps11
  go_wp2_with fail
  refine (HC.out (a.N % 4294967296) (by omega)).mono ?_
  rintro e w1 ⟨rfl, h1, h2⟩
  have H1 := hide h1
  have H2 := hide h2
  clear h1 h2
  go_wp2
  go_returns
  exact ⟨rfl, by rw [← HFX.out]; exact H1.out, grownBy_trans (World.grownBy_alloc _ _ _) H2.out⟩

set_option maxRecDepth 20000 in
set_option maxHeartbeats 800000 in
theorem put_11 (w : World) (X : Nat → Prop) (z : Nat) (xs : List UInt8) (cs : Array Value) (bv : Value) (a : AddR) (hk : a.kind = 11) (ha : AddIs w cs bv a) (h : EncSt w X z xs) (hne : ∀ b o l c, bv = .slice (some ⟨b, o, none⟩) l c → 0 < c → b ≠ z) (hlen : xs.length + a.S.length + a.B.length ≤ 1125899906842624) :
    Calls Try.prog 11 #[.pointer (some ⟨z, 0, none⟩), .agg cs] w (PutE w X z (xs ++ fixB 8 a.N)) := by
  have hE := h.alloc (.cells cs 37)
  have hA := ha.below ((Below.refl _ _).alloc (Nat.le_refl _) (.cells cs 37))
  have HC := hide (fun v u hu hv => put_int64 (w.alloc (.cells cs 37)) X z xs v u hu hv hE (by omega))
  have HCK := hide (ha.key w)
  have HKL := hide (show (a.K.map u8c).length = 32 by simp [ha.kl])
  have g0 := ha.c0
  rw [hk] at g0
  have g1 := ha.c1
  have g2 := ha.c2
  have g3 := ha.c3
  have hN := ha.hN
  obtain ⟨ao, cap, rfl, hl⟩ := ha.rd.slice
  clear ha h hE hA
  obtain ⟨u, hu⟩ : ∃ u : Nat, IntKind.u64.wrap (IntKind.i64.wrap (a.N : Int)) = (u : Int) := ⟨_, (Int.toNat_of_nonneg (by rw [IntKind.wrap_u64]; omega)).symm⟩
  have hfix : fixB 8 u = fixB 8 a.N := fixB_mod 8 _ _ (by rw [IntKind.wrap_u64, IntKind.wrap_i64] at hu; omega)
  have HFX := hide hfix
  clear hfix
  go_enter Try.func11, Try.ntmps11
  go_wp2_with fail
  refine (HC.out _ u (by first | exact hu | (rw [IntWalk.i32_left] at hu; exact hu) | (rw [IntWalk.i64_left] at hu; exact hu)) (by first | exact wf_wrap _ _ | go_wf | (simp [Lit.wf, IntKind.min, IntKind.max, IntKind.signed, IntKind.bits]; omega))).mono ?_
  rintro e w1 ⟨rfl, h1, h2⟩
  have H1 := hide h1
  have H2 := hide h2
  clear h1 h2
  go_wp2
  go_returns
  exact ⟨rfl, by rw [← HFX.out]; exact H1.out, grownBy_trans (World.grownBy_alloc _ _ _) H2.out⟩

set_option maxRecDepth 20000 in
set_option maxHeartbeats 800000 in
theorem put_12 (w : World) (X : Nat → Prop) (z : Nat) (xs : List UInt8) (cs : Array Value) (bv : Value) (a : AddR) (hk : a.kind = 12) (ha : AddIs w cs bv a) (h : EncSt w X z xs) (hne : ∀ b o l c, bv = .slice (some ⟨b, o, none⟩) l c → 0 < c → b ≠ z) (hlen : xs.length + a.S.length + a.B.length ≤ 1125899906842624) :
    Calls Try.prog 11 #[.pointer (some ⟨z, 0, none⟩), .agg cs] w (PutE w X z (xs ++ fixB 8 a.N)) := by
  have hE := h.alloc (.cells cs 37)
  have hA := ha.below ((Below.refl _ _).alloc (Nat.le_refl _) (.cells cs 37))
  have HC := hide (fun u hu => put_uint64 (w.alloc (.cells cs 37)) X z xs u hu hE (by omega))
  have HCK := hide (ha.key w)
  have HKL := hide (show (a.K.map u8c).length = 32 by simp [ha.kl])
  have g0 := ha.c0
  rw [hk] at g0
  have g1 := ha.c1
  have g2 := ha.c2
  have g3 := ha.c3
  have hN := ha.hN
  obtain ⟨ao, cap, rfl, hl⟩ := ha.rd.slice
  clear ha h hE hA
  go_enter Try.func11, Try.ntmps11
  go_wp2_with fail
  refine (HC.out a.N (by omega)).mono ?_
  rintro e w1 ⟨rfl, h1, h2⟩
  have H1 := hide h1
  have H2 := hide h2
  clear h1 h2
  go_wp2
  go_returns
  exact ⟨rfl, H1.out, grownBy_trans (World.grownBy_alloc _ _ _) H2.out⟩

set_option maxRecDepth 20000 in
set_option maxHeartbeats 800000 in
theorem put_13 (w : World) (X : Nat → Prop) (z : Nat) (xs : List UInt8) (cs : Array Value) (bv : Value) (a : AddR) (hk : a.kind = 13) (ha : AddIs w cs bv a) (h : EncSt w X z xs) (hne : ∀ b o l c, bv = .slice (some ⟨b, o, none⟩) l c → 0 < c → b ≠ z) (hlen : xs.length + a.S.length + a.B.length ≤ 1125899906842624) :
    Calls Try.prog 11 #[.pointer (some ⟨z, 0, none⟩), .agg cs] w (PutE w X z (xs ++ (varB a.B.length ++ a.B))) := by
  have hE := h.alloc (.cells cs 37)
  have hA := ha.below ((Below.refl _ _).alloc (Nat.le_refl _) (.cells cs 37))
  have HC := hide (evar_enc (w.alloc (.cells cs 37)) X z xs a.B.length (by omega) hE (by omega))
  have HZ := hide h.zlt
  have HR := hide (fun W hg hX => raw_any W X z (xs ++ varB a.B.length) a.B bv hX (hA.rd.grown hg hne) hne (by have := varB_len a.B.length; simp; omega))
  have HCK := hide (ha.key w)
  have HKL := hide (show (a.K.map u8c).length = 32 by simp [ha.kl])
  have g0 := ha.c0
  rw [hk] at g0
  have g1 := ha.c1
  have g2 := ha.c2
  have g3 := ha.c3
  have hN := ha.hN
  obtain ⟨ao, cap, rfl, hl⟩ := ha.rd.slice
  clear ha h hE hA
  go_enter Try.func11, Try.ntmps11
  go_wp2_with fail
  refine (HC.out).mono ?_
  rintro e w1 ⟨rfl, h1, h2⟩
  have H1 := hide h1
  have H2 := hide h2
  clear h1 h2
  have hBk : Blk w1 w.heap.size cs 37 := (Blk.made w cs _).grown H2.out (fun e => Nat.ne_of_gt HZ.out (Option.some.inj e))
  have c3 := hBk.cell 3
  rw [g3] at c3
  clear hBk
  go_wp2_with fail
  refine (HR.out _ H2.out H1.out).mono ?_
  rintro e w2 ⟨rfl, h1, h2⟩
  have H3 := hide h1
  have H4 := hide h2
  clear h1 h2
  go_wp2
  go_returns
  exact ⟨rfl, by rw [← List.append_assoc]; exact H3.out, grownBy_trans (grownBy_trans (World.grownBy_alloc _ _ _) H2.out) H4.out⟩
end Go.Proofs.Ytinjcefekbpabaa
