/- A table's array in memory: way, find. -/
import Derived.Test.YtnknjcnbbljagaaTM3
import Derived.Laws.Cover2
import Derived.Deep.RegionWith
namespace Go.Proofs.Ytnknjcnbbljagaa
set_option linter.unusedVariables false
set_option linter.unusedSimpArgs false
namespace GG
set_option maxRecDepth 100000
open Go.RowKit

@[go_sem] theorem run_store_float (P : Program) (w : World) (a : Addr) (m : Mode) (k : FloatKind) (b : Nat) : (store a (.float k b) m).run P w = stored P w a (.float k b) m := run_store P w a _ m rfl
/-- The keys: the floats 0 to 31 and the nought with a sign, in bits. -/
def flB (n : Nat) : Nat := match n with
  | 0 => 0 | 1 => 4607182418800017408 | 2 => 4611686018427387904 | 3 => 4613937818241073152 | 4 => 4616189618054758400 | 5 => 4617315517961601024 | 6 => 4618441417868443648 | 7 => 4619567317775286272
  | n + 8 => if n < 8 then 4620693217682128896 + n * 562949953421312 else if n < 24 then 4625196817309499392 + (n - 8) * 281474976710656 else 9223372036854775808
def Dm (k : Nat) : Prop := k = 9223372036854775808 ∨ ∃ n, n < 32 ∧ k = flB n
abbrev SL := Slt Nat Int
def kS : SL → Value
  | .ful k _ => .float .f64 k
  | .emp => .float .f64 0
  | .tmb => .float .f64 0
def vS : SL → Value
  | .ful _ v => .int .i64 v
  | .emp => .int .i64 0
  | .tmb => .int .i64 0
def eqK (a b : Nat) : Bool := FloatKind.f64.format.order a b == some .eq
/-- A row of slots. -/
structure RowAt (w : World) (g : Nat) (L : List SL) : Prop where
  row : ∃ cur, Blk w g cur 119 ∧ cur.size = L.length * 3
  c0 : ∀ p, p < L.length → w.cell? ⟨g, p * 3, none⟩ = some (.int .u8 ((sat L p).st : Int))
  c1 : ∀ p, p < L.length → w.cell? ⟨g, p * 3 + 1, none⟩ = some (kS (sat L p))
  c2 : ∀ p, p < L.length → w.cell? ⟨g, p * 3 + 2, none⟩ = some (vS (sat L p))
  kb : ∀ p k v, p < L.length → sat L p = .ful k v → Dm k
theorem RowAt.lt {w : World} {g : Nat} {L : List SL} (h : RowAt w g L) : g < w.heap.size := by
  obtain ⟨cur, hb, _⟩ := h.row
  exact hb.lt
theorem way_any (w : World) (z o n : Nat) (ga : Option Addr) (h i : Nat) (c0 : w.cell? ⟨z, o, none⟩ = some (.slice ga n n)) (a : Nat) (ha : a ≤ 43) (hn : n = 2 ^ a) (hh : h < 18446744073709551616) (hi : i < n) :
    Calls Try.prog 95 #[.pointer (some ⟨z, o, none⟩), .int .u64 (h : Int), .int .i64 (i : Int)] w fun e w' => e = .returned (.int .i64 (((h + i) % n : Nat) : Int)) ∧ w' = w := by
  have hn2 : n ≤ 8796093022208 := by rw [hn]; exact Nat.pow_le_pow_right (by decide) ha
  have HN := hide hn
  have hn0 : 0 < n := by omega
  have hi2 : i ≤ 8796093022208 := by omega
  clear hn
  go_enter Try.func95, Try.ntmps95
  go_wp2
  have e : IntKind.i64.wrap ((IntKind.u64.wrap ((h : Int) + (i : Int))).tmod (n : Int)) = (((h + i) % n : Nat) : Int) := way_num h i n a ha HN.out
  have e' : wrap64 ((IntKind.u64.wrap ((h : Int) + (i : Int))).tmod (n : Int)) = (((h + i) % n : Nat) : Int) := (wrap_is _).trans e
  rw [e']
  go_ret
  exact ⟨rfl, rfl⟩
theorem find_any (w : World) (z o n g : Nat) (L : List SL) (h : Nat) (k : Nat) (c0 : w.cell? ⟨z, o, none⟩ = some (.slice (some ⟨g, 0, none⟩) n n)) (hL : L.length = n) (hr : RowAt w g L) (a : Nat) (ha : a ≤ 43) (hn : n = 2 ^ a) (hh : h < 18446744073709551616) :
    Calls Try.prog 70 #[.pointer (some ⟨z, o, none⟩), .int .u64 (h : Int), .float .f64 k] w fun e w' => e = .returned (fndV (find eqK L h k)) ∧ ∃ q, w' = w.drewN q := by
  have hn2 : n ≤ 8796093022208 := by rw [hn]; exact Nat.pow_le_pow_right (by decide) ha
  have HW := hide (fun i hi => way_any w z o n (some ⟨g, 0, none⟩) h i c0 a ha hn hh hi)
  have hg := hr.lt
  have hz := World.block_lt_of_cell? w _ c0
  have HR := hide hr
  have HL := hide hL
  clear hn ha hr hL
  go_enter Try.func70, Try.ntmps70
  go_wp2
  go_loop [15] (fun t => ∃ j : Nat, t = .int .i64 j ∧ j ≤ n ∧ Hid (find eqK L h k = fnd eqK L h k (n - j) j)) (fun t => n - (intOf t).toNat)
  case atStart => exact ⟨0, rfl, Nat.zero_le _, hide (by unfold find; rw [HL.out]; rfl)⟩
  case round =>
    obtain ⟨j, rfl, hj, hq⟩ := hrel
    by_cases hlt : j < n
    · have hji : (j : Int) < (n : Int) := by omega
      have hpl : (h + j) % n < n := Nat.mod_lt _ (by omega)
      have HWj := hide (HW.out j hlt)
      have HQ : Hid (find eqK L h k = fnd eqK L h k (n - (j + 1) + 1) j) := hide (by rw [hq.out, show n - j = (n - (j + 1)) + 1 by omega])
      obtain ⟨p, hp⟩ : ∃ p, p = (h + j) % n := ⟨_, rfl⟩
      have HP : Hid ((h + j) % L.length = p) := hide (by rw [HL.out, hp])
      rw [← hp] at hpl HWj
      have d0 := HR.out.c0 p (by rw [HL.out]; exact hpl)
      have d1 := HR.out.c1 p (by rw [HL.out]; exact hpl)
      have hpi : (p : Int) < (n : Int) := by omega
      clear hq hp
      cases hs : sat L p with
      | emp =>
        rw [hs] at d0 d1
        have HF : Hid (find eqK L h k = (none, j + 1)) := hide (by rw [HQ.out]; exact fnd_emp (by rw [HP.out]; exact hs))
        have e0 : (((Slt.emp : SL).st : Nat) : Int) = 0 := rfl
        rw [e0] at d0
        clear hs HQ e0
        go_wp2_with (go_at_call 95; refine HWj.out.mono ?_; rintro e w' ⟨rfl, hw⟩; rw [hw]; clear hw)
        go_ret3
        exact ⟨by rw [HF.out]; rfl, 0, rfl⟩
      | tmb =>
        rw [hs] at d0 d1
        have HF : Hid (find eqK L h k = fnd eqK L h k (n - (j + 1)) (j + 1)) := hide (by rw [HQ.out]; exact fnd_tmb (by rw [HP.out]; exact hs))
        have e0 : (((Slt.tmb : SL).st : Nat) : Int) = 2 := rfl
        rw [e0] at d0
        clear hs HQ e0
        go_wp2_with (go_at_call 95; refine HWj.out.mono ?_; rintro e w' ⟨rfl, hw⟩; rw [hw]; clear hw)
        go_round
        case rel => exact ⟨j + 1, by go_num, by omega, HF⟩
        case measure => simp [intOf]; omega
      | ful k' v' =>
        rw [hs] at d0 d1
        have e0 : (((Slt.ful k' v' : SL).st : Nat) : Int) = 1 := rfl
        have e1 : kS (Slt.ful k' v') = .float .f64 k' := rfl
        rw [e0] at d0
        rw [e1] at d1
        cases he : eqK k' k with
        | true =>
          have HF : Hid (find eqK L h k = (some p, j + 1)) := hide (by rw [HQ.out, fnd_yes (by rw [HP.out]; exact hs) he, HP.out])
          have hb : (FloatKind.f64.format.order k' k == some .eq) = true := he
          clear hs HQ e0 e1 he
          go_wp2_with (go_at_call 95; refine HWj.out.mono ?_; rintro e w' ⟨rfl, hw⟩; rw [hw]; clear hw)
          go_ret3
          exact ⟨by rw [HF.out]; rfl, 0, rfl⟩
        | false =>
          have HF : Hid (find eqK L h k = fnd eqK L h k (n - (j + 1)) (j + 1)) := hide (by rw [HQ.out]; exact fnd_no (by rw [HP.out]; exact hs) he)
          have hb : (FloatKind.f64.format.order k' k == some .eq) = false := he
          clear hs HQ e0 e1 he
          go_wp2_with (go_at_call 95; refine HWj.out.mono ?_; rintro e w' ⟨rfl, hw⟩; rw [hw]; clear hw)
          go_round
          case rel => exact ⟨j + 1, by go_num, by omega, HF⟩
          case measure => simp [intOf]; omega
    · have hji : ¬ (j : Int) < (n : Int) := by omega
      have HF : Hid (find eqK L h k = (none, n)) := hide (by rw [hq.out, show j = n by omega, Nat.sub_self]; rfl)
      go_upto_region 12 with fail
      go_quiet (fail)
      go_wp2
      go_ret3
      exact ⟨by rw [HF.out]; rfl, _, rfl⟩
end GG
end Go.Proofs.Ytnknjcnbbljagaa

/- A table in memory; lay. -/
namespace Go.Proofs.Ytnknjcnbbljagaa
set_option linter.unusedVariables false
set_option linter.unusedSimpArgs false
namespace GG
set_option maxRecDepth 100000
open Go.RowKit

theorem RowAt.same {w w' : World} {g : Nat} {L : List SL} (h : RowAt w g L) (hs : w'.heap[g]? = w.heap[g]?) : RowAt w' g L := by
  obtain ⟨cur, hb, hc⟩ := h.row
  exact ⟨⟨cur, hs.trans hb, hc⟩, fun p hp => (cell_of_block hs).trans (h.c0 p hp), fun p hp => (cell_of_block hs).trans (h.c1 p hp), fun p hp => (cell_of_block hs).trans (h.c2 p hp), h.kb⟩
def setSl (w : World) (g p : Nat) (s : SL) : World := ((w.setCell ⟨g, p * 3, none⟩ (.int .u8 (s.st : Int))).setCell ⟨g, p * 3 + 1, none⟩ (kS s)).setCell ⟨g, p * 3 + 2, none⟩ (vS s)
/-- A slot is written over. -/
theorem RowAt.put {w : World} {g : Nat} {L : List SL} (h : RowAt w g L) (p : Nat) (hp : p < L.length) (s : SL) (hk : ∀ k v, s = .ful k v → Dm k) : RowAt (setSl w g p s) g (L.set p s) := by
  obtain ⟨cur, hb, hc⟩ := h.row
  have h3 := ((hb.set (p * 3) (.int .u8 (s.st : Int))).set (p * 3 + 1) (kS s)).set (p * 3 + 2) (vS s)
  have cell : ∀ o, (setSl w g p s).cell? ⟨g, o, none⟩ = (((cur.setIfInBounds (p * 3) (.int .u8 (s.st : Int))).setIfInBounds (p * 3 + 1) (kS s)).setIfInBounds (p * 3 + 2) (vS s))[o]? := fun o => h3.cell o
  have old : ∀ o, w.cell? ⟨g, o, none⟩ = cur[o]? := fun o => hb.cell o
  refine ⟨⟨_, h3, by simpa using hc⟩, fun q hq => ?_, fun q hq => ?_, fun q hq => ?_, fun q k v hq hs => by
    rw [List.length_set] at hq
    rw [sat_set hp] at hs
    split at hs
    · exact hk k v hs
    · exact h.kb q k v hq hs⟩
  all_goals
    rw [List.length_set] at hq
    rw [cell, sat_set hp]
    by_cases e : q = p
    · subst e
      rw [if_pos rfl]
      first
        | (rw [Array.getElem?_setIfInBounds_ne (by omega), Array.getElem?_setIfInBounds_ne (by omega), Array.getElem?_setIfInBounds_self_of_lt (by omega)]; done)
        | (rw [Array.getElem?_setIfInBounds_ne (by omega), Array.getElem?_setIfInBounds_self_of_lt (by simp; omega)]; done)
        | (rw [Array.getElem?_setIfInBounds_self_of_lt (by simp; omega)]; done)
    · rw [if_neg e, Array.getElem?_setIfInBounds_ne (by omega), Array.getElem?_setIfInBounds_ne (by omega), Array.getElem?_setIfInBounds_ne (by omega), ← old]
      first | exact h.c0 q hq | exact h.c1 q hq | exact h.c2 q hq
abbrev TB := Tb Nat Int
/-- A table: its block z, the rows of its two arrays. -/
structure TbAt (w : World) (z gy ge : Nat) (hv : Value) (T : TB) : Prop where
  blk : Blk w z (tbL hv gy T.y.length (cnt T.y 1) (cnt T.y 2) ge T.e.length (cnt T.e 1) (cnt T.e 2) T.m) 113
  ry : RowAt w gy T.y
  re : T.e.length ≠ 0 → RowAt w ge T.e
  ne : T.e.length ≠ 0 → ge ≠ gy
  nil : T.e.length = 0 → ge = gy
  ly : ∃ a, a ≤ 43 ∧ T.y.length = 2 ^ a
  le : T.e.length ≠ 0 → ∃ a, a ≤ 43 ∧ T.e.length = 2 ^ a
  mm : T.m ≤ T.e.length
section
variable {w : World} {z gy ge : Nat} {hv : Value} {T : TB}
theorem TbAt.zy (h : TbAt w z gy ge hv T) : z ≠ gy := by
  obtain ⟨cur, hr, _⟩ := h.ry.row
  have hb := h.blk
  unfold Blk at hr hb
  intro e
  rw [e, hr] at hb
  cases hb
theorem TbAt.ze (h : TbAt w z gy ge hv T) : z ≠ ge := by
  by_cases h0 : T.e.length = 0
  · rw [h.nil h0]; exact h.zy
  · obtain ⟨cur, hr, _⟩ := (h.re h0).row
    have hb := h.blk
    unfold Blk at hr hb
    intro e
    rw [e, hr] at hb
    cases hb
theorem TbAt.same {w' : World} (h : TbAt w z gy ge hv T) (hs : ∀ k, TbB z gy ge k → w'.heap[k]? = w.heap[k]?) : TbAt w' z gy ge hv T :=
  ⟨(hs z (.inl rfl)).trans h.blk, h.ry.same (hs gy (.inr (.inl rfl))), fun h0 => (h.re h0).same (hs ge (.inr (.inr rfl))), h.ne, h.nil, h.ly, h.le, h.mm⟩
theorem TbAt.lt (h : TbAt w z gy ge hv T) {k : Nat} (hk : TbB z gy ge k) : k < w.heap.size := by
  rcases hk with rfl | rfl | rfl
  · exact h.blk.lt
  · exact h.ry.lt
  · by_cases h0 : T.e.length = 0
    · rw [h.nil h0]; exact h.ry.lt
    · exact (h.re h0).lt
theorem TbAt.below {w' : World} (h : TbAt w z gy ge hv T) (hb : Below w.heap.size w w') : TbAt w' z gy ge hv T := h.same (fun k hk => hb.block k (h.lt hk))
theorem TbAt.drewN (h : TbAt w z gy ge hv T) (n : Nat) : TbAt (w.drewN n) z gy ge hv T := h.same (fun _ _ => rfl)
/-- A slot of the younger array is written over, with the array's numbers. -/
theorem TbAt.putY (h : TbAt w z gy ge hv T) (p : Nat) (hp : p < T.y.length) (s : SL) (hk : ∀ k v, s = .ful k v → Dm k) : TbAt (((setSl w gy p s).setCell ⟨z, 2, none⟩ (.int .i64 (cnt (T.y.set p s) 1 : Int))).setCell ⟨z, 3, none⟩ (.int .i64 (cnt (T.y.set p s) 2 : Int))) z gy ge hv ⟨T.y.set p s, T.e, T.m⟩ := by
  have hzy := h.zy
  have hze := h.ze
  have ry := h.ry.put p hp s hk
  have hb : Blk (setSl w gy p s) z (tbL hv gy T.y.length (cnt T.y 1) (cnt T.y 2) ge T.e.length (cnt T.e 1) (cnt T.e 2) T.m) 113 := ((h.blk.setOther _ _ hzy).setOther _ _ hzy).setOther _ _ hzy
  refine ⟨by rw [List.length_set]; exact (hb.set 2 _).set 3 _, ?_, fun h0 => ?_, h.ne, h.nil, by rw [List.length_set]; exact h.ly, h.le, h.mm⟩
  · refine ry.same ?_
    rw [heap_setCell_other _ _ _ _ hzy.symm, heap_setCell_other _ _ _ _ hzy.symm]
  · have hne := h.ne h0
    refine (h.re h0).same ?_
    rw [heap_setCell_other _ _ _ _ hze.symm, heap_setCell_other _ _ _ _ hze.symm]
    unfold setSl
    rw [heap_setCell_other _ _ _ _ hne, heap_setCell_other _ _ _ _ hne, heap_setCell_other _ _ _ _ hne]
end
end GG
end Go.Proofs.Ytnknjcnbbljagaa

/- lay. -/
namespace Go.Proofs.Ytnknjcnbbljagaa
set_option linter.unusedVariables false
set_option linter.unusedSimpArgs false
namespace GG
set_option maxRecDepth 100000
open Go.RowKit

section
variable {z gy ge : Nat} {hv : Value} {T : TB}
theorem TbAt.mkY {w w' : World} (h : TbAt w z gy ge hv T) {L : List SL} (hl : L.length = T.y.length) (hb : Blk w' z (tbL hv gy T.y.length (cnt L 1) (cnt L 2) ge T.e.length (cnt T.e 1) (cnt T.e 2) T.m) 113) (hr : RowAt w' gy L) (ho : ∀ k, k ≠ z → k ≠ gy → w'.heap[k]? = w.heap[k]?) : TbAt w' z gy ge hv ⟨L, T.e, T.m⟩ :=
  ⟨by rw [hl]; exact hb, hr, fun h0 => (h.re h0).same (ho ge h.ze.symm (h.ne h0)), h.ne, h.nil, by rw [hl]; exact h.ly, h.le, h.mm⟩
theorem oth3 (w : World) (g p : Nat) (s : SL) (k : Nat) (hk : k ≠ g) : (setSl w g p s).heap[k]? = w.heap[k]? := by
  unfold setSl
  rw [heap_setCell_other _ _ _ _ hk, heap_setCell_other _ _ _ _ hk, heap_setCell_other _ _ _ _ hk]
/-- What a call leaves of a table whose rows stay where they are. -/
structure TbK (w w' : World) (z gy ge : Nat) (hv : Value) (T' : TB) : Prop where
  tb : TbAt w' z gy ge hv T'
  fr : Frm w w' (TbB z gy ge)
theorem TbK.emp {w : World} (h : TbAt w z gy ge hv T) (p : Nat) (hp : p < T.y.length) (s : SL) (hk : ∀ k v, s = .ful k v → Dm k) (h2 : cnt (T.y.set p s) 2 = cnt T.y 2) : TbK w ((setSl w gy p s).setCell ⟨z, 2, none⟩ (.int .i64 (cnt (T.y.set p s) 1 : Int))) z gy ge hv ⟨T.y.set p s, T.e, T.m⟩ := by
  have hzy := h.zy
  refine ⟨h.mkY List.length_set ?_ ?_ (fun k h1 h2 => ?_), (((Frm.set _ _ _ _ _ (.inr (.inl rfl))).put _ _ _ (.inr (.inl rfl))).put _ _ _ (.inr (.inl rfl))).put _ _ _ (.inl rfl)⟩
  · rw [h2]
    exact (((h.blk.setOther _ _ hzy).setOther _ _ hzy).setOther _ _ hzy).set 2 _
  · refine (h.ry.put p hp s hk).same ?_
    rw [heap_setCell_other _ _ _ _ hzy.symm]
  · rw [heap_setCell_other _ _ _ _ h1, oth3 _ _ _ _ _ h2]
theorem TbK.tmb {w : World} (h : TbAt w z gy ge hv T) (p : Nat) (hp : p < T.y.length) (s : SL) (hk : ∀ k v, s = .ful k v → Dm k) : TbK w ((setSl (w.setCell ⟨z, 3, none⟩ (.int .i64 (cnt (T.y.set p s) 2 : Int))) gy p s).setCell ⟨z, 2, none⟩ (.int .i64 (cnt (T.y.set p s) 1 : Int))) z gy ge hv ⟨T.y.set p s, T.e, T.m⟩ := by
  have hzy := h.zy
  refine ⟨h.mkY List.length_set ?_ ?_ (fun k h1 h2 => ?_), ((((Frm.set _ _ _ _ _ (.inl rfl)).put _ _ _ (.inr (.inl rfl))).put _ _ _ (.inr (.inl rfl))).put _ _ _ (.inr (.inl rfl))).put _ _ _ (.inl rfl)⟩
  · exact ((((h.blk.set 3 _).setOther _ _ hzy).setOther _ _ hzy).setOther _ _ hzy).set 2 _
  · refine ((h.ry.same ?_).put p hp s hk).same (heap_setCell_other _ _ _ _ hzy.symm)
    rw [heap_setCell_other _ _ _ _ hzy.symm]
  · rw [heap_setCell_other _ _ _ _ h1, oth3 _ _ _ _ _ h2, heap_setCell_other _ _ _ _ h1]
theorem lay_any (w : World) (H : TbAt w z gy ge hv T) (h : Nat) (k : Nat) (v : Int) (hh : h < 18446744073709551616) (hkb : Dm k) :
    Calls Try.prog 71 #[.pointer (some ⟨z, 1, none⟩), .int .u64 (h : Int), .float .f64 k, .int .i64 v] w fun e w' => e = .returned (.tuple #[]) ∧ TbK w w' z gy ge hv ⟨lay T.y h k v, T.e, T.m⟩ := by
  obtain ⟨a, ha, hn⟩ := H.ly
  obtain ⟨n, hnn⟩ : ∃ n, n = T.y.length := ⟨_, rfl⟩
  have c0 : w.cell? ⟨z, 1, none⟩ = some (.slice (some ⟨gy, 0, none⟩) n n) := by rw [H.blk.cell, hnn]; rfl
  have c1 : w.cell? ⟨z, 2, none⟩ = some (.int .i64 (cnt T.y 1 : Int)) := by rw [H.blk.cell]; rfl
  have c2 : w.cell? ⟨z, 3, none⟩ = some (.int .i64 (cnt T.y 2 : Int)) := by rw [H.blk.cell]; rfl
  have f1 := H.blk.frozen 2
  have f2 := H.blk.frozen 3
  rw [← hnn] at hn
  have hn2 : n ≤ 8796093022208 := by rw [hn]; exact Nat.pow_le_pow_right (by decide) ha
  have HW := hide (fun i hi => way_any w z 1 n (some ⟨gy, 0, none⟩) h i c0 a ha hn hh hi)
  have hg := H.ry.lt
  have hz := H.blk.lt
  have hzy : ¬ z = gy := H.zy
  have hyz : ¬ gy = z := fun e => H.zy e.symm
  have b1 := cnt_le T.y 1
  have b2 := cnt_le T.y 2
  rw [← hnn] at b1 b2
  have HH := hide H
  have HKB := hide hkb
  clear hkb
  have HL : Hid (T.y.length = n) := hide hnn.symm
  obtain ⟨x1, hx1⟩ : ∃ x, x = cnt T.y 1 := ⟨_, rfl⟩
  obtain ⟨x2, hx2⟩ : ∃ x, x = cnt T.y 2 := ⟨_, rfl⟩
  rw [← hx1] at c1 b1
  rw [← hx2] at c2 b2
  have HX1 := hide hx1
  have HX2 := hide hx2
  clear hn ha H hnn hx1 hx2
  go_enter Try.func71, Try.ntmps71
  go_wp2
  go_loop [15] (fun t => ∃ j : Nat, t = .int .i64 j ∧ j ≤ n ∧ Hid (lay T.y h k v = lyg T.y h k v (n - j) j)) (fun t => n - (intOf t).toNat)
  case atStart => exact ⟨0, rfl, Nat.zero_le _, hide (by unfold lay; rw [HL.out]; rfl)⟩
  case round =>
    obtain ⟨j, rfl, hj, hq⟩ := hrel
    by_cases hlt : j < n
    · have hji : (j : Int) < (n : Int) := by omega
      have hpl : (h + j) % n < n := Nat.mod_lt _ (by omega)
      have HWj := hide (HW.out j hlt)
      have HQ : Hid (lay T.y h k v = lyg T.y h k v (n - (j + 1) + 1) j) := hide (by rw [hq.out, show n - j = (n - (j + 1)) + 1 by omega])
      obtain ⟨p, hp⟩ : ∃ p, p = (h + j) % n := ⟨_, rfl⟩
      have HP : Hid ((h + j) % T.y.length = p) := hide (by rw [HL.out, hp])
      rw [← hp] at hpl HWj
      have hpt : p < T.y.length := by rw [HL.out]; exact hpl
      have HPT := hide hpt
      have d0 := HH.out.ry.c0 p hpt
      have d1 := HH.out.ry.c1 p hpt
      have d2 := HH.out.ry.c2 p hpt
      have hpi : (p : Int) < (n : Int) := by omega
      obtain ⟨cur, hbk, _⟩ := HH.out.ry.row
      have g0 := hbk.frozen (p * 3)
      have g1 := hbk.frozen (p * 3 + 1)
      have g2 := hbk.frozen (p * 3 + 2)
      clear hq hp hpt hbk
      cases hs : sat T.y p with
      | emp =>
        rw [hs] at d0 d1 d2
        have HF : Hid (lay T.y h k v = T.y.set p (.ful k v)) := hide (by rw [HQ.out, lyg_emp (by rw [HP.out]; exact hs), HP.out])
        have k1 := cnt_set T.y p HPT.out (.ful k v) 1
        have k2 := cnt_set T.y p HPT.out (.ful k v) 2
        rw [hs] at k1 k2
        have HK1 : Hid (cnt (T.y.set p (.ful k v)) 1 = x1 + 1) := hide (by rw [HX1.out]; simpa [Slt.st] using k1)
        have HK2 : Hid (cnt (T.y.set p (.ful k v)) 2 = x2) := hide (by rw [HX2.out]; simpa [Slt.st] using k2)
        have e0 : (((Slt.emp : SL).st : Nat) : Int) = 0 := rfl
        have e1 : kS Slt.emp = .float .f64 0 := rfl
        have e2 : vS Slt.emp = .int .i64 0 := rfl
        rw [e0] at d0
        rw [e1] at d1
        rw [e2] at d2
        clear hs HQ e0 e1 e2 k1 k2
        go_wp2_with (go_at_call 95; refine HWj.out.mono ?_; rintro e w' ⟨rfl, hw⟩; rw [hw]; clear hw)
        go_returns
        refine ⟨rfl, ?_⟩
        have := TbK.emp HH.out p HPT.out (.ful k v) (fun a b e => by cases e; exact HKB.out) (by rw [HK2.out, HX2.out])
        rw [HF.out]
        rw [HK1.out, Int.natCast_add] at this
        exact this
      | tmb =>
        rw [hs] at d0 d1 d2
        have HF : Hid (lay T.y h k v = T.y.set p (.ful k v)) := hide (by rw [HQ.out, lyg_tmb (by rw [HP.out]; exact hs), HP.out])
        have k1 := cnt_set T.y p HPT.out (.ful k v) 1
        have k2 := cnt_set T.y p HPT.out (.ful k v) 2
        rw [hs] at k1 k2
        have HK1 : Hid (cnt (T.y.set p (.ful k v)) 1 = x1 + 1) := hide (by rw [HX1.out]; simpa [Slt.st] using k1)
        have HK2 : Hid (((cnt (T.y.set p (.ful k v)) 2 : Nat) : Int) = (x2 : Int) - 1) := hide (by rw [HX2.out]; simp [Slt.st] at k2; omega)
        have hx20 : 0 < x2 := by rw [HX2.out]; simp [Slt.st] at k2; omega
        have e0 : (((Slt.tmb : SL).st : Nat) : Int) = 2 := rfl
        have e1 : kS Slt.tmb = .float .f64 0 := rfl
        have e2 : vS Slt.tmb = .int .i64 0 := rfl
        rw [e0] at d0
        rw [e1] at d1
        rw [e2] at d2
        clear hs HQ e0 e1 e2 k1 k2
        go_wp2_with (go_at_call 95; refine HWj.out.mono ?_; rintro e w' ⟨rfl, hw⟩; rw [hw]; clear hw)
        go_returns
        refine ⟨rfl, ?_⟩
        have := TbK.tmb HH.out p HPT.out (.ful k v) (fun a b e => by cases e; exact HKB.out)
        rw [HF.out]
        rw [HK1.out, HK2.out, Int.natCast_add] at this
        exact this
      | ful k' v' =>
        rw [hs] at d0 d1
        have e0 : (((Slt.ful k' v' : SL).st : Nat) : Int) = 1 := rfl
        rw [e0] at d0
        have HF : Hid (lay T.y h k v = lyg T.y h k v (n - (j + 1)) (j + 1)) := hide (by rw [HQ.out, lyg_ful (by rw [HP.out]; exact hs)])
        clear hs HQ e0 d1 d2
        go_wp2_with (go_at_call 95; refine HWj.out.mono ?_; rintro e w' ⟨rfl, hw⟩; rw [hw]; clear hw)
        go_round
        case rel => exact ⟨j + 1, by go_num, by omega, HF⟩
        case measure => simp [intOf]; omega
    · have hji : ¬ (j : Int) < (n : Int) := by omega
      have HF : Hid (lay T.y h k v = T.y) := hide (by rw [hq.out, show j = n by omega, Nat.sub_self]; rfl)
      go_wp2
      go_returns
      exact ⟨rfl, by rw [HF.out]; exact ⟨HH.out, Frm.refl _ _⟩⟩
/-- A slot of the younger array is made a tomb. -/
theorem buryY_any (w : World) (H : TbAt w z gy ge hv T) (p : Nat) (hp : p < T.y.length) (k : Nat) (v : Int) (hs : sat T.y p = .ful k v) :
    Calls Try.prog 69 #[.pointer (some ⟨z, 1, none⟩), .int .i64 (p : Int)] w fun e w' => e = .returned (.int .i64 v) ∧ TbK w w' z gy ge hv ⟨T.y.set p .tmb, T.e, T.m⟩ := by
  obtain ⟨a, ha, hn⟩ := H.ly
  obtain ⟨n, hnn⟩ : ∃ n, n = T.y.length := ⟨_, rfl⟩
  have c0 : w.cell? ⟨z, 1, none⟩ = some (.slice (some ⟨gy, 0, none⟩) n n) := by rw [H.blk.cell, hnn]; rfl
  have c1 : w.cell? ⟨z, 2, none⟩ = some (.int .i64 (cnt T.y 1 : Int)) := by rw [H.blk.cell]; rfl
  have c2 : w.cell? ⟨z, 3, none⟩ = some (.int .i64 (cnt T.y 2 : Int)) := by rw [H.blk.cell]; rfl
  have f1 := H.blk.frozen 2
  have f2 := H.blk.frozen 3
  rw [← hnn] at hn
  have hn2 : n ≤ 8796093022208 := by rw [hn]; exact Nat.pow_le_pow_right (by decide) ha
  have hg := H.ry.lt
  have hz := H.blk.lt
  have hzy : ¬ z = gy := H.zy
  have hyz : ¬ gy = z := fun e => H.zy e.symm
  have b1 := cnt_le T.y 1
  have b2 := cnt_le T.y 2
  rw [← hnn] at b1 b2
  have d0 := H.ry.c0 p hp
  have d1 := H.ry.c1 p hp
  have d2 := H.ry.c2 p hp
  rw [hs] at d0 d1 d2
  have e0 : (((Slt.ful k v : SL).st : Nat) : Int) = 1 := rfl
  have e1 : kS (Slt.ful k v) = .float .f64 k := rfl
  have e2 : vS (Slt.ful k v) = .int .i64 v := rfl
  rw [e0] at d0
  rw [e1] at d1
  rw [e2] at d2
  obtain ⟨cur, hbk, _⟩ := H.ry.row
  have g0 := hbk.frozen (p * 3)
  have g1 := hbk.frozen (p * 3 + 1)
  have g2 := hbk.frozen (p * 3 + 2)
  have k1 := cnt_set T.y p hp .tmb 1
  have k2 := cnt_set T.y p hp .tmb 2
  rw [hs] at k1 k2
  obtain ⟨x1, hx1⟩ : ∃ x, x = cnt T.y 1 := ⟨_, rfl⟩
  obtain ⟨x2, hx2⟩ : ∃ x, x = cnt T.y 2 := ⟨_, rfl⟩
  rw [← hx1] at c1 b1 k1
  rw [← hx2] at c2 b2 k2
  have HK1 : Hid (((cnt (T.y.set p .tmb) 1 : Nat) : Int) = (x1 : Int) - 1) := hide (by simp [Slt.st] at k1; omega)
  have HK2 : Hid (((cnt (T.y.set p .tmb) 2 : Nat) : Int) = (x2 : Int) + 1) := hide (by simp [Slt.st] at k2; omega)
  have hx0 : 0 < x1 := by simp [Slt.st] at k1; omega
  have hpi : (p : Int) < (n : Int) := by omega
  have HS := hide (H.putY p hp .tmb (fun a b e => by cases e))
  clear hn ha H hx1 hx2 hnn hs hp hbk k1 k2 e0 e1 e2
  go_enter Try.func69, Try.ntmps69
  go_wp2
  go_ret
  refine ⟨rfl, ?_, ((((Frm.set _ _ _ _ _ (.inr (.inl rfl))).put _ _ _ (.inr (.inl rfl))).put _ _ _ (.inr (.inl rfl))).put _ _ _ (.inl rfl)).put _ _ _ (.inl rfl)⟩
  have := HS.out
  rw [HK1.out, HK2.out] at this
  exact this
end
end GG
end Go.Proofs.Ytnknjcnbbljagaa

/- bury in the elder array; finding; the small questions. -/
namespace Go.Proofs.Ytnknjcnbbljagaa
set_option linter.unusedVariables false
set_option linter.unusedSimpArgs false
namespace GG
set_option maxRecDepth 100000
open Go.RowKit

section
variable {z gy ge : Nat} {hv : Value} {T : TB}
theorem TbAt.cellE {w : World} (h : TbAt w z gy ge hv T) (h0 : T.e.length ≠ 0) {n : Nat} (hn : n = T.e.length) : w.cell? ⟨z, 4, none⟩ = some (.slice (some ⟨ge, 0, none⟩) n n) := by
  rw [h.blk.cell, hn]
  show some (evS ge T.e.length) = _
  unfold evS
  rw [if_neg h0]
theorem TbAt.cellE0 {w : World} (h : TbAt w z gy ge hv T) (h0 : T.e.length = 0) : w.cell? ⟨z, 4, none⟩ = some (.slice none 0 0) := by
  rw [h.blk.cell]
  show some (evS ge T.e.length) = _
  unfold evS
  rw [if_pos h0]
theorem TbAt.putE {w : World} (h : TbAt w z gy ge hv T) (p : Nat) (hp : p < T.e.length) (s : SL) (hk : ∀ k v, s = .ful k v → Dm k) : TbAt (((setSl w ge p s).setCell ⟨z, 5, none⟩ (.int .i64 (cnt (T.e.set p s) 1 : Int))).setCell ⟨z, 6, none⟩ (.int .i64 (cnt (T.e.set p s) 2 : Int))) z gy ge hv ⟨T.y, T.e.set p s, T.m⟩ := by
  have h0 : T.e.length ≠ 0 := by omega
  have hzy := h.zy
  have hze := h.ze
  have hne := h.ne h0
  have re := (h.re h0).put p hp s hk
  have hb : Blk (setSl w ge p s) z (tbL hv gy T.y.length (cnt T.y 1) (cnt T.y 2) ge T.e.length (cnt T.e 1) (cnt T.e 2) T.m) 113 := ((h.blk.setOther _ _ hze).setOther _ _ hze).setOther _ _ hze
  refine ⟨by rw [List.length_set]; exact (hb.set 5 _).set 6 _, ?_, fun _ => ?_, fun _ => hne, fun e => absurd (by rw [List.length_set] at e; exact e) h0, h.ly, fun _ => by rw [List.length_set]; exact h.le h0, by rw [List.length_set]; exact h.mm⟩
  · refine h.ry.same ?_
    rw [heap_setCell_other _ _ _ _ hzy.symm, heap_setCell_other _ _ _ _ hzy.symm, oth3 _ _ _ _ _ hne.symm]
  · refine re.same ?_
    rw [heap_setCell_other _ _ _ _ hze.symm, heap_setCell_other _ _ _ _ hze.symm]
/-- A slot of the elder array is made a tomb. -/
theorem buryE_any (w : World) (H : TbAt w z gy ge hv T) (p : Nat) (hp : p < T.e.length) (k : Nat) (v : Int) (hs : sat T.e p = .ful k v) :
    Calls Try.prog 69 #[.pointer (some ⟨z, 4, none⟩), .int .i64 (p : Int)] w fun e w' => e = .returned (.int .i64 v) ∧ TbK w w' z gy ge hv ⟨T.y, T.e.set p .tmb, T.m⟩ := by
  have h0 : T.e.length ≠ 0 := by omega
  obtain ⟨a, ha, hn⟩ := H.le h0
  obtain ⟨n, hnn⟩ : ∃ n, n = T.e.length := ⟨_, rfl⟩
  have c0 : w.cell? ⟨z, 4, none⟩ = some (.slice (some ⟨ge, 0, none⟩) n n) := H.cellE h0 hnn
  have c1 : w.cell? ⟨z, 5, none⟩ = some (.int .i64 (cnt T.e 1 : Int)) := by rw [H.blk.cell]; rfl
  have c2 : w.cell? ⟨z, 6, none⟩ = some (.int .i64 (cnt T.e 2 : Int)) := by rw [H.blk.cell]; rfl
  have f1 := H.blk.frozen 5
  have f2 := H.blk.frozen 6
  rw [← hnn] at hn
  have hn2 : n ≤ 8796093022208 := by rw [hn]; exact Nat.pow_le_pow_right (by decide) ha
  have hg := (H.re h0).lt
  have hz := H.blk.lt
  have hzy : ¬ z = ge := H.ze
  have hyz : ¬ ge = z := fun e => H.ze e.symm
  have b1 := cnt_le T.e 1
  have b2 := cnt_le T.e 2
  rw [← hnn] at b1 b2
  have d0 := (H.re h0).c0 p hp
  have d1 := (H.re h0).c1 p hp
  have d2 := (H.re h0).c2 p hp
  rw [hs] at d0 d1 d2
  have e0 : (((Slt.ful k v : SL).st : Nat) : Int) = 1 := rfl
  have e1 : kS (Slt.ful k v) = .float .f64 k := rfl
  have e2 : vS (Slt.ful k v) = .int .i64 v := rfl
  rw [e0] at d0
  rw [e1] at d1
  rw [e2] at d2
  obtain ⟨cur, hbk, _⟩ := (H.re h0).row
  have g0 := hbk.frozen (p * 3)
  have g1 := hbk.frozen (p * 3 + 1)
  have g2 := hbk.frozen (p * 3 + 2)
  have k1 := cnt_set T.e p hp .tmb 1
  have k2 := cnt_set T.e p hp .tmb 2
  rw [hs] at k1 k2
  obtain ⟨x1, hx1⟩ : ∃ x, x = cnt T.e 1 := ⟨_, rfl⟩
  obtain ⟨x2, hx2⟩ : ∃ x, x = cnt T.e 2 := ⟨_, rfl⟩
  rw [← hx1] at c1 b1 k1
  rw [← hx2] at c2 b2 k2
  have HK1 : Hid (((cnt (T.e.set p .tmb) 1 : Nat) : Int) = (x1 : Int) - 1) := hide (by simp [Slt.st] at k1; omega)
  have HK2 : Hid (((cnt (T.e.set p .tmb) 2 : Nat) : Int) = (x2 : Int) + 1) := hide (by simp [Slt.st] at k2; omega)
  have hx0 : 0 < x1 := by simp [Slt.st] at k1; omega
  have hpi : (p : Int) < (n : Int) := by omega
  have HS := hide (H.putE p hp .tmb (fun a b e => by cases e))
  clear hn ha H h0 hx1 hx2 hnn hs hp hbk k1 k2 e0 e1 e2
  go_enter Try.func69, Try.ntmps69
  go_wp2
  go_ret
  refine ⟨rfl, ?_, ((((Frm.set _ _ _ _ _ (.inr (.inr rfl))).put _ _ _ (.inr (.inr rfl))).put _ _ _ (.inr (.inr rfl))).put _ _ _ (.inl rfl)).put _ _ _ (.inl rfl)⟩
  have := HS.out
  rw [HK1.out, HK2.out] at this
  exact this
theorem findY_any (w : World) (H : TbAt w z gy ge hv T) (h : Nat) (k : Nat) (hh : h < 18446744073709551616) :
    Calls Try.prog 70 #[.pointer (some ⟨z, 1, none⟩), .int .u64 (h : Int), .float .f64 k] w fun e w' => e = .returned (fndV (find eqK T.y h k)) ∧ ∃ q, w' = w.drewN q := by
  obtain ⟨a, ha, hn⟩ := H.ly
  exact find_any w z 1 T.y.length gy T.y h k (by rw [H.blk.cell]; rfl) rfl H.ry a ha hn hh
theorem find_nil (w : World) (z o : Nat) (h : Nat) (k : Nat) (c0 : w.cell? ⟨z, o, none⟩ = some (.slice none 0 0)) :
    Calls Try.prog 70 #[.pointer (some ⟨z, o, none⟩), .int .u64 (h : Int), .float .f64 k] w fun e w' => e = .returned (fndV (none, 0)) ∧ ∃ q, w' = w.drewN q := by
  have hz := World.block_lt_of_cell? w _ c0
  go_enter Try.func70, Try.ntmps70
  go_wp2
  go_loop [15] (fun t => t = .int .i64 0) (fun t => 0)
  case atStart => rfl
  case round =>
    obtain rfl := hrel
    go_upto_region 12 with fail
    go_quiet (fail)
    go_wp2
    go_ret3
    exact ⟨rfl, _, rfl⟩
theorem findE_any (w : World) (H : TbAt w z gy ge hv T) (h : Nat) (k : Nat) (hh : h < 18446744073709551616) :
    Calls Try.prog 70 #[.pointer (some ⟨z, 4, none⟩), .int .u64 (h : Int), .float .f64 k] w fun e w' => e = .returned (fndV (find eqK T.e h k)) ∧ ∃ q, w' = w.drewN q := by
  by_cases h0 : T.e.length = 0
  · have e : find eqK T.e h k = (none, 0) := by unfold find; rw [h0]; rfl
    rw [e]
    exact find_nil w z 4 h k (H.cellE0 h0)
  · obtain ⟨a, ha, hn⟩ := H.le h0
    exact find_any w z 4 T.e.length ge T.e h k (H.cellE h0 rfl) rfl (H.re h0) a ha hn hh
theorem TbAt.b43 {w : World} (H : TbAt w z gy ge hv T) : T.y.length ≤ 8796093022208 ∧ T.e.length ≤ 8796093022208 := by
  obtain ⟨a, ha, hn⟩ := H.ly
  refine ⟨by rw [hn]; exact Nat.pow_le_pow_right (by decide) ha, ?_⟩
  by_cases h0 : T.e.length = 0
  · omega
  · obtain ⟨a, ha, hn⟩ := H.le h0
    rw [hn]; exact Nat.pow_le_pow_right (by decide) ha
variable {F bt bm : Nat}
def hvF (F bt bm : Nat) : Value := .func (.func F) #[] #[]
theorem notnil_f (F bt bm : Nat) (w : World) : (binOp BinOp.eql 52 (.func (.func F) #[] #[]) .nilFunc).run Try.prog w = .ok (.bool false) w := by kernel_rfl
theorem none_no (w : World) (H : TbAt w z gy ge (hvF F bt bm) T) : Calls Try.prog 66 #[.pointer (some ⟨z, 0, none⟩)] w fun e w' => e = .returned (.bool false) ∧ w' = w := by
  have c0 : w.cell? ⟨z, 0, none⟩ = some (.func (.func F) #[] #[]) := by rw [H.blk.cell]; rfl
  have hz := H.blk.lt
  have hnf := notnil_f F bt bm w
  clear H
  go_enter Try.func66, Try.ntmps66
  go_wp2
  go_ret
  exact ⟨rfl, rfl⟩
theorem left_any (w : World) (H : TbAt w z gy ge (hvF F bt bm) T) : Calls Try.prog 94 #[.pointer (some ⟨z, 0, none⟩)] w fun e w' => e = .returned (.int .i64 (T.left : Int)) ∧ ∃ q, w' = w.drewN q := by
  have HN := hide (none_no w H)
  have hz := H.blk.lt
  have hmm := H.mm
  have b := H.b43.2
  have c7 : w.cell? ⟨z, 7, none⟩ = some (.int .i64 (T.m : Int)) := by rw [H.blk.cell]; rfl
  have c4 : ∃ ao, w.cell? ⟨z, 4, none⟩ = some (.slice ao T.e.length T.e.length) := by
    by_cases h0 : T.e.length = 0
    · exact ⟨_, by rw [h0]; exact H.cellE0 h0⟩
    · exact ⟨_, H.cellE h0 rfl⟩
  obtain ⟨ao, c4⟩ := c4
  have HS : Hid ((T.e.length : Int) - (T.m : Int) = (T.left : Int)) := hide (by unfold Tb.left; omega)
  generalize T.e.length = n at *
  generalize T.m = m at *
  have hmi : (m : Int) ≤ (n : Int) := by omega
  clear H
  go_enter Try.func94, Try.ntmps94
  go_upto_region 3 with (go_at_call 66; refine HN.out.mono ?_; rintro e w' ⟨rfl, hw⟩; rw [hw]; clear hw)
  go_quiet (fail)
  go_wp2
  rw [HS.out]
  go_ret
  exact ⟨rfl, _, rfl⟩
theorem len_any (w : World) (H : TbAt w z gy ge (hvF F bt bm) T) : Calls Try.prog 29 #[.pointer (some ⟨z, 0, none⟩)] w fun e w' => e = .returned (.int .i64 (T.len : Int)) ∧ ∃ q, w' = w.drewN q := by
  have HN := hide (none_no w H)
  have hz := H.blk.lt
  have b := H.b43
  have b1 := cnt_le T.y 1
  have b2 := cnt_le T.e 1
  have c2 : w.cell? ⟨z, 2, none⟩ = some (.int .i64 (cnt T.y 1 : Int)) := by rw [H.blk.cell]; rfl
  have c5 : w.cell? ⟨z, 5, none⟩ = some (.int .i64 (cnt T.e 1 : Int)) := by rw [H.blk.cell]; rfl
  have HS : Hid ((cnt T.y 1 : Int) + (cnt T.e 1 : Int) = (T.len : Int)) := hide (by unfold Tb.len; omega)
  generalize cnt T.y 1 = x at *
  generalize cnt T.e 1 = y at *
  have hx : x ≤ 8796093022208 := by omega
  have hy : y ≤ 8796093022208 := by omega
  clear H b b1 b2
  go_enter Try.func29, Try.ntmps29
  go_upto_region 3 with (go_at_call 66; refine HN.out.mono ?_; rintro e w' ⟨rfl, hw⟩; rw [hw]; clear hw)
  go_quiet (fail)
  go_wp2
  rw [HS.out]
  go_ret
  exact ⟨rfl, _, rfl⟩
theorem cap_any (w : World) (H : TbAt w z gy ge (hvF F bt bm) T) : Calls Try.prog 96 #[.pointer (some ⟨z, 0, none⟩)] w fun e w' => e = .returned (.int .i64 (T.y.length : Int)) ∧ w' = w := by
  have HN := hide (none_no w H)
  have hz := H.blk.lt
  have c1 : w.cell? ⟨z, 1, none⟩ = some (.slice (some ⟨gy, 0, none⟩) T.y.length T.y.length) := by rw [H.blk.cell]; rfl
  generalize T.y.length = n at *
  clear H
  go_enter Try.func96, Try.ntmps96
  go_wp2_with (go_at_call 66; refine HN.out.mono ?_; rintro e w' ⟨rfl, hw⟩; rw [hw]; clear hw)
  go_ret
  exact ⟨rfl, rfl⟩
end
end GG
end Go.Proofs.Ytnknjcnbbljagaa

/- The hash; seek; a new table. -/
namespace Go.Proofs.Ytnknjcnbbljagaa
set_option linter.unusedVariables false
set_option linter.unusedSimpArgs false
namespace GG
set_option maxRecDepth 100000
open Go.RowKit

/-- A hash: what it tells of a float's bits. -/
structure HsAt (F : Nat) (hf : Nat → Nat) : Prop where
  call : ∀ (w : World) (k : Nat), Dm k → Calls Try.prog F #[.float .f64 k] w fun e w' => e = .returned (.int .u64 (hf k : Int)) ∧ w' = w
  lt : ∀ k, Dm k → hf k < 18446744073709551616
  ent : ∀ args W, (callFunc F args).run Try.prog W = .ok (.enter F args) W
section
variable {z gy ge : Nat} {hv : Value} {T : TB}
theorem seek_any (w : World) (H : TbAt w z gy ge hv T) (hs : Nat → Nat) (k : Nat) (hh : hs k < 18446744073709551616) :
    Calls Try.prog 67 #[.pointer (some ⟨z, 0, none⟩), .int .u64 (hs k : Int), .float .f64 k] w fun e w' => e = .returned (seekV z (seek eqK hs T k)) ∧ ∃ q, w' = w.drewN q := by
  have HY := hide (findY_any w H (hs k) k hh)
  have HE := hide (fun n => findE_any (w.drewN n) (H.drewN n) (hs k) k hh)
  have l1 := find_le eqK T.y (hs k) k
  have l2 := find_le eqK T.e (hs k) k
  have b := H.b43
  have hz := H.blk.lt
  cases hy : find eqK T.y (hs k) k with
  | mk oy ny =>
    rw [hy] at HY l1
    cases oy with
    | some p =>
      have HS : Hid (seek eqK hs T k = (some (false, p), ny)) := hide (by unfold seek; rw [hy])
      have hp0 : (0 : Int) ≤ (p : Int) := by omega
      clear H hy HE l1 l2 b
      go_enter Try.func67, Try.ntmps67
      go_wp2_with (go_at_call 70; refine HY.out.mono ?_; rintro e w' ⟨rfl, q, hw⟩; rw [hw]; clear hw; unfold fndV)
      go_ret3
      exact ⟨by rw [HS.out]; rfl, _, rfl⟩
    | none =>
      cases he : find eqK T.e (hs k) k with
      | mk oe ne =>
        rw [he] at HE l2
        have hny : ny ≤ 8796093022208 := by have : ny ≤ T.y.length := l1; omega
        have hne : ne ≤ 8796093022208 := by have : ne ≤ T.e.length := l2; omega
        cases oe with
        | some p =>
          have HS : Hid (seek eqK hs T k = (some (true, p), ny + ne)) := hide (by unfold seek; rw [hy]; simp only []; rw [he])
          clear H hy he l1 l2 b
          go_enter Try.func67, Try.ntmps67
          go_upto_region 2 with (go_at_call 70; refine HY.out.mono ?_; rintro e w' ⟨rfl, q, hw⟩; rw [hw]; clear hw; unfold fndV)
          have HEq := hide (HE.out q)
          clear HE HY
          go_wp2_with (go_at_call 70; refine HEq.out.mono ?_; rintro e w' ⟨rfl, q2, hw⟩; rw [hw]; clear hw; unfold fndV)
          go_ret3
          exact ⟨by rw [HS.out]; unfold seekV; simp, _, rfl⟩
        | none =>
          have HS : Hid (seek eqK hs T k = (none, ny + ne)) := hide (by unfold seek; rw [hy]; simp only []; rw [he])
          clear H hy he l1 l2 b
          go_enter Try.func67, Try.ntmps67
          go_upto_region 2 with (go_at_call 70; refine HY.out.mono ?_; rintro e w' ⟨rfl, q, hw⟩; rw [hw]; clear hw; unfold fndV)
          have HEq := hide (HE.out q)
          clear HE HY
          go_wp2_with (go_at_call 70; refine HEq.out.mono ?_; rintro e w' ⟨rfl, q2, hw⟩; rw [hw]; clear hw; unfold fndV)
          go_ret3
          exact ⟨by rw [HS.out]; unfold seekV; simp, _, rfl⟩
end
end GG
end Go.Proofs.Ytnknjcnbbljagaa
