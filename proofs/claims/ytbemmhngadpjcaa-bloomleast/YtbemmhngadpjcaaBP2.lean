/- Plan, the program's. -/
import Derived.Test.YtbemmhngadpjcaaBP1
namespace Go.Proofs.Ytbemmhngadpjcaa
set_option linter.unusedVariables false
set_option linter.unusedSimpArgs false
open Go.RowKit Go.Sort Ieee

theorem cell_made (w : World) (v : Value) (t : TypeId) : (w.alloc (.cells #[v] t)).cell? ⟨w.heap.size, 0, none⟩ = some v := by
  rw [(Blk.made w #[v] t).cell]; rfl
set_option maxRecDepth 20000 in
set_option maxHeartbeats 2000000 in
theorem fewest_any (w : World) (h n r : Nat) (hh : 1 ≤ h ∧ h ≤ 16) (hn : n ≤ 4294967296) (hr : r < infR) :
    Calls Try.prog 42 #[.int .i64 h, .int .i64 n, .float .f64 r] w fun e w' => ∃ m, Few r h n m ∧ e = .returned (.int .i64 ((m : Int) + 1)) ∧ Below w.heap.size w w' := by
  have S := hide (fun W bh ba br c1 c2 c3 => search_any W bh ba br h n r c1 c2 c3 hh hn hr)
  go_enter Try.func42, Try.ntmps42
  go_wp2_with fail
  have b1 := Blk.made w #[.int .i64 h] 3
  have b2 := Blk.made (w.alloc (.cells #[.int .i64 h] 3)) #[.int .i64 n] 3
  have b3 := Blk.made ((w.alloc (.cells #[.int .i64 h] 3)).alloc (.cells #[.int .i64 n] 3)) #[.float .f64 r] 40
  have hb := ((((Below.refl w.heap.size w).alloc (Nat.le_refl _) (.cells #[.int .i64 h] 3))).alloc (by simp) (.cells #[.int .i64 n] 3)).alloc (by simp; omega) (.cells #[.float .f64 r] 40)
  have hS := S.out _ w.heap.size (w.heap.size + 1) (w.heap.size + 2) (((b1.alloc _).alloc _).cell 0) (by have := (b2.alloc (.cells #[.float .f64 r] 40)).cell 0; simpa using this) (by have := b3.cell 0; simpa using this)
  refine hS.mono ?_
  rintro e w1 ⟨m, hm, rfl, hb1⟩
  have hml : m ≤ 16384 := hm.1
  have HM := hide hm
  have HB := hide (hb.trans (hb1.mono hb.size))
  clear b1 b2 b3 hb hS hb1 hm S
  go_wp2
  go_ret
  exact ⟨m, HM.out, by go_num, HB.out⟩
/-- What Plan answers. -/
def PlanV (n r : Nat) (b h e : Int) : Prop :=
  (e = 70 ∧ b = 0 ∧ h = 0 ∧ ∀ h' t, 1 ≤ h' → h' ≤ 16 → t < 16384 → ¬ Keeps r h' n t) ∨
  (e = 0 ∧ ∃ L H : Nat, b = 64 * ((L : Int) + 1) ∧ h = H ∧ L < 16384 ∧ 1 ≤ H ∧ H ≤ 16 ∧ Keeps r H n L ∧ (∀ h', 1 ≤ h' → h' < H → ¬ Keeps r h' n L) ∧ ∀ h' t, 1 ≤ h' → h' ≤ 16 → t < L → ¬ Keeps r h' n t)
theorem PlanV.one {n r : Nat} {b h e b' h' e' : Int} (p : PlanV n r b h e) (q : PlanV n r b' h' e') : b = b' ∧ h = h' ∧ e = e' := by
  rcases p with ⟨rfl, rfl, rfl, p⟩ | ⟨rfl, L, H, rfl, rfl, p1, p2, p3, p4, p5, p6⟩ <;> rcases q with ⟨rfl, rfl, rfl, q⟩ | ⟨rfl, L', H', rfl, rfl, q1, q2, q3, q4, q5, q6⟩
  · exact ⟨rfl, rfl, rfl⟩
  · exact absurd q4 (p H' L' q2 q3 q1)
  · exact absurd p4 (q H L p2 p3 p1)
  · have hL : L = L' := by
      rcases Nat.lt_trichotomy L L' with c | c | c
      · exact absurd p4 (q6 H L p2 p3 c)
      · exact c
      · exact absurd q4 (p6 H' L' q2 q3 c)
    subst hL
    have hH : H = H' := by
      rcases Nat.lt_trichotomy H H' with c | c | c
      · exact absurd p4 (q5 H p2 c)
      · exact c
      · exact absurd q4 (p5 H' q2 c)
    subst hH
    exact ⟨rfl, rfl, rfl⟩
/-- Between two numbers of hashes: the least words so far, and for which. -/
def PlanI (r n i L H : Nat) : Prop := 1 ≤ L ∧ L ≤ 16385 ∧ (∀ h' t, 1 ≤ h' → h' ≤ i → t + 1 < L → ¬ Keeps r h' n t) ∧ (L ≤ 16384 → 1 ≤ H ∧ H ≤ 16 ∧ Keeps r H n (L - 1) ∧ ∀ h', 1 ≤ h' → h' < H → ¬ Keeps r h' n (L - 1)) ∧ (L = 16385 → H = 0)
theorem PlanI.less {r n i L H m : Nat} (p : PlanI r n i L H) (hi : i < 16) (f : Few r (i + 1) n m) (hm : m + 1 < L) : PlanI r n (i + 1) (m + 1) (i + 1) := by
  obtain ⟨p1, p2, p3, p4, p5⟩ := p
  obtain ⟨f1, f2, f3⟩ := f
  refine ⟨by omega, by omega, fun h' t a b c => ?_, fun _ => ⟨by omega, by omega, f3 _ (by omega) (by omega), fun h' a b => p3 h' _ a (by omega) (by omega)⟩, fun h => by omega⟩
  rcases Nat.lt_or_ge i h' with q | q
  · obtain rfl : h' = i + 1 := by omega
    exact f2 t (by omega)
  · exact p3 h' t a q (by omega)
theorem PlanI.more {r n i L H m : Nat} (p : PlanI r n i L H) (f : Few r (i + 1) n m) (hm : L ≤ m + 1) : PlanI r n (i + 1) L H := by
  obtain ⟨p1, p2, p3, p4, p5⟩ := p
  obtain ⟨f1, f2, f3⟩ := f
  refine ⟨p1, p2, fun h' t a b c => ?_, p4, p5⟩
  rcases Nat.lt_or_ge i h' with q | q
  · obtain rfl : h' = i + 1 := by omega
    exact f2 t (by omega)
  · exact p3 h' t a q c
def PlanC (w : World) (n r : Nat) (e : Ending) (w' : World) : Prop := ∃ b h er, PlanV n r b h er ∧ e = .returned (.tuple #[.int .i64 b, .int .i64 h, .int .i64 er]) ∧ Below w.heap.size w w'
set_option maxRecDepth 20000 in
set_option maxHeartbeats 4000000 in
theorem plan_in (w : World) (n r : Nat) (hn : n ≤ 4294967296) (hr0 : 0 < r) (hr1 : r < ONE) : Calls Try.prog 15 #[.int .i64 n, .float .f64 r] w (PlanC w n r) := by
  have hone := one_lt
  have o1 : FloatKind.f64.format.order r 0 = some .gt := order_gt (by omega) hr0
  have o2 : FloatKind.f64.format.order r 4607182418800017408 = some .lt := order_lt one_lt hr1
  have F := hide (fun W h hh => fewest_any W h n r hh hn (by omega))
  have i1 : ¬ (n : Int) < 0 := by omega
  have i2 : ¬ (4294967296 : Int) < n := by omega
  clear hr0 hr1 hone
  go_enter Try.func15, Try.ntmps15
  go_wp2
  go_loopw [5, 7, 23] (fun s5 s7 s23 wr => ∃ (i L H : Nat), s23 = .int .i64 i ∧ s7 = .int .i64 L ∧ s5 = .int .i64 H ∧ i ≤ 16 ∧ L ≤ 16385 ∧ Below w.heap.size w wr ∧ Hid (PlanI r n i L H)) (fun _ _ s23 _ => 16 - (intOf s23).toNat)
  case atStart => exact ⟨0, 16385, 0, rfl, rfl, rfl, by omega, by omega, Below.refl _ _, hide ⟨by omega, by omega, fun h' t a b => by omega, fun h => by omega, fun _ => rfl⟩⟩
  case round =>
    obtain ⟨i, L, H, rfl, rfl, rfl, hi, hL, hbel, HI⟩ := hrel
    by_cases hlt : i < 16
    · have hii : (i : Int) < 16 := by omega
      have C := hide (F.out wr (i + 1) (by omega))
      have HB := hide hbel
      clear hbel
      go_wp2_with fail
      refine C.out.mono ?_
      rintro e w1 ⟨m, hm, rfl, hb1⟩
      have HM := hide hm
      have hml : m ≤ 16384 := hm.1
      have HB1 := hide (Below.step HB.out hb1)
      clear hb1 hm C HB
      by_cases hmL : m + 1 < L
      · have hmi : (m : Int) + 1 < L := by omega
        go_wp2
        exact ⟨⟨i + 1, m + 1, i + 1, by go_num, by go_num, by go_num, by omega, by omega, HB1.out, hide (HI.out.less hlt HM.out hmL)⟩, by simp [intOf]; omega⟩
      · have hmi : ¬ (m : Int) + 1 < L := by omega
        go_wp2
        exact ⟨⟨i + 1, L, H, by go_num, rfl, rfl, by omega, hL, HB1.out, hide (HI.out.more HM.out (by omega))⟩, by simp [intOf]; omega⟩
    · obtain rfl : i = 16 := by omega
      have hii : ¬ (((16 : Nat) : Int)) < 16 := by omega
      by_cases hLs : L ≤ 16384
      · have hLi : ¬ (16384 : Int) < L := by omega
        go_wp2
        go_ret3
        obtain ⟨p1, p2, p3, p4, p5⟩ := HI.out
        obtain ⟨a1, a2, a3, a4⟩ := p4 hLs
        refine ⟨_, _, _, .inr ⟨rfl, L - 1, H, ?_, rfl, by omega, a1, a2, a3, a4, fun h' t b1 b2 b3 => p3 h' t b1 b2 (by omega)⟩, rfl, hbel⟩
        omega
      · have hLi : (16384 : Int) < L := by omega
        go_wp2
        go_ret3
        obtain ⟨p1, p2, p3, p4, p5⟩ := HI.out
        exact ⟨_, _, _, .inl ⟨rfl, rfl, rfl, fun h' t b1 b2 b3 => p3 h' t b1 b2 (by omega)⟩, rfl, hbel⟩
end Go.Proofs.Ytbemmhngadpjcaa
