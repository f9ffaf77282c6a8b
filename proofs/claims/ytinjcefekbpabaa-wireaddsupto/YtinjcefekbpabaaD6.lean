/- Raw and Text on a Dec. -/
import Derived.Test.YtinjcefekbpabaaD5
import Derived.Deep.WholeRow
import Derived.Deep.OwnRows
import Derived.Laws.CopyOwn
import Derived.Laws.BytesArg
namespace Go.Proofs.Ytinjcefekbpabaa
set_option linter.unusedVariables false
set_option linter.unusedSimpArgs false
open Go.RowKit

theorem infoU8 : (Try.prog.info? 5).map (fun i => (i.zero, i.size, i.bytes)) = some (some (.int .u8 0), 1, 1) := by kernel_rfl
theorem infoU8s : (Try.prog.info? 5).map (·.size) = some 1 := by kernel_rfl

theorem u8c_one (xs : List UInt8) : ∀ v ∈ xs.map u8c, v.oneCell' = true := by
  intro v hv
  obtain ⟨u, _, rfl⟩ := List.mem_map.1 hv
  rfl

theorem make_u8 (n : Nat) (h : n ≤ 281474976710656) (w : World) : (Instr.makeSlice 28 (.int .i64 (n : Int)) (.int .i64 (n : Int))).run Try.prog w = .ok (.slice (some ⟨w.heap.size, 0, none⟩) n n) (w.alloc (.cells (madeCells #[.int .u8 0] n) 5)) :=
  run_make_row' (P := Try.prog) 28 5 (.int .u8 0) 1 Try.underlying28 infoU8 rfl .i64 .i64 n (by omega) (by omega) w

theorem copy_made (w : World) (v : Value) (xs : List UInt8) (h : Rd w v xs) (ty : TypeId) :
    (Builtin.copy_ #[28, 28] ty #[.slice (some ⟨w.heap.size, 0, none⟩) xs.length xs.length, v]).run Try.prog (w.alloc (.cells (madeCells #[.int .u8 0] xs.length) 5)) =
      .ok (goInt xs.length) (w.alloc (.cells (xs.map u8c).toArray 5)) := by
  obtain ⟨ao, c, rfl, hc, hm, hcel⟩ := h
  rcases Nat.eq_zero_or_pos xs.length with h0 | hpos
  · obtain rfl : xs = [] := List.eq_nil_of_length_eq_zero h0
    have := run_copy_none (P := Try.prog) (w.alloc (.cells (madeCells #[.int .u8 0] 0) 5)) 28 28 ty 5 (some ⟨w.heap.size, 0, none⟩) ao 0 0 0 c Try.underlying28 infoU8s rfl
    have e : madeCells #[Value.int .u8 0] 0 = #[] := Array.eq_empty_of_size_eq_zero (size_madeCells _ _)
    rw [e] at this
    simpa [e] using this
  · obtain ⟨b, o, rfl, hcell⟩ : ∃ b o, ao = some ⟨b, o, none⟩ ∧ ∀ i (h : i < xs.length), w.cell? ⟨b, o + i, none⟩ = some (u8c xs[i]) := by
      rcases hcel with ⟨_, h⟩ | h
      · omega
      · exact h
    have hr := run_copy_row (P := Try.prog) (w.alloc (.cells (madeCells #[.int .u8 0] xs.length) 5)) 28 28 ty 5 w.heap.size 0 xs.length xs.length ⟨b, o, none⟩ xs.length c _ 5 (xs.map u8c) Try.underlying28 infoU8s (Blk.made w _ _)
      (by simp [Nat.min_self])
      (fun j v hj => by
        have hjl : j < xs.length := by
          rcases Nat.lt_or_ge j xs.length with h | h
          · exact h
          · simp [List.getElem?_eq_none (show (xs.map u8c).length ≤ j by simpa using h)] at hj
        have hplain : (⟨b, o, none⟩ : Addr).add j = ⟨b, o + j, none⟩ := by unfold Addr.add; split <;> simp_all
        have hold := hcell j hjl
        rw [hplain, World.cell?_alloc_lt _ _ _ (World.block_lt_of_cell? w _ hold), hold]
        simpa [List.getElem?_eq_getElem hjl] using hj)
      (by simp [size_madeCells]) (u8c_one xs)
    rw [hr]
    have hd : (madeCells #[Value.int .u8 0] xs.length).toList.drop (0 + (xs.map u8c).length) = [] := List.drop_eq_nil_of_le (by simp [size_madeCells])
    rw [hd, World.setRow_alloc_new]
    simp

theorem strOf_u8 (xs : List UInt8) : strOfNums (xs.map fun u => (u.toNat : Int)) = ⟨xs.toArray⟩ := by
  have : ((fun n : Int => UInt8.ofNat n.toNat) ∘ fun u : UInt8 => (u.toNat : Int)) = id := by funext u; simp
  simp [strOfNums, this]

theorem conv_rd (w : World) (v : Value) (xs : List UInt8) (h : Rd w v xs) : (convert 28 9 v).run Try.prog w = .ok (.string ⟨xs.toArray⟩) w := by
  obtain ⟨ao, c, rfl, hc, hm, hcel⟩ := h
  rcases Nat.eq_zero_or_pos xs.length with h0 | hpos
  · obtain rfl : xs = [] := List.eq_nil_of_length_eq_zero h0
    rcases hcel with ⟨rfl, _⟩ | ⟨b, o, rfl, _⟩
    · exact run_convert_bytes_nil (P := Try.prog) w 28 5 Try.underlying28 Try.underlying5 _ _ 9 Try.underlying9
    · exact run_convert_bytes_arg (P := Try.prog) w 28 5 Try.underlying28 Try.underlying5 b o 0 c [] rfl (fun i hi => by omega) 9 Try.underlying9
  · obtain ⟨b, o, rfl, hcell⟩ : ∃ b o, ao = some ⟨b, o, none⟩ ∧ ∀ i (h : i < xs.length), w.cell? ⟨b, o + i, none⟩ = some (u8c xs[i]) := by
      rcases hcel with ⟨_, h⟩ | h
      · omega
      · exact h
    have := run_convert_bytes_arg (P := Try.prog) w 28 5 Try.underlying28 Try.underlying5 b o xs.length c (xs.map fun u => (u.toNat : Int)) (by simp)
      (fun i hi => by rw [hcell i hi]; simp [u8c, List.getD, List.getElem?_eq_getElem hi]) 9 Try.underlying9
    rw [this, strOf_u8]

def RawC (w : World) (z : Nat) (sv : Value) (bs : List UInt8) (r : Option (List UInt8) × S) (e : Ending) (w' : World) : Prop :=
  (∃ v, e = .returned v ∧ w'.ownsRow w.heap.size 5 1 v (r.1.getD []).length ((r.1.getD []).map u8c)) ∧ DecSt w' z sv bs r.2 ∧ w.grownBy w' (some z)

theorem mNext_len (bs : List UInt8) (s : S) (a k : Nat) : ((mNext bs s a k).1.getD []).length ≤ bs.length := by
  unfold mNext
  split
  · simp
  · split
    · simp
    · simp; omega

theorem owns_made (w : World) (xs : List UInt8) (h : xs.length ≤ maxLen) (base : Nat) (hb : base ≤ w.heap.size) : (w.alloc (.cells (xs.map u8c).toArray 5)).ownsRow base 5 1 (.slice (some ⟨w.heap.size, 0, none⟩) xs.length xs.length) xs.length (xs.map u8c) :=
  ⟨by simp, .inr ⟨w.heap.size, xs.length, (xs.map u8c).toArray, rfl, hb, Blk.made w _ _, Nat.le_refl _, h, by simp, List.take_of_length_le (by simp)⟩⟩

set_option maxRecDepth 20000 in
set_option maxHeartbeats 800000 in
theorem raw_st (w : World) (z : Nat) (sv : Value) (bs : List UInt8) (s : S) (n : Int) (h1 : -9223372036854775808 ≤ n) (h2 : n ≤ 9223372036854775807) (h : DecSt w z sv bs s) (hlen : bs.length ≤ 281474976710656) :
    Calls Try.prog 19 #[.pointer (some ⟨z, 0, none⟩), .int .i64 n] w (RawC w z sv bs (mNext bs s (mPlace s) n.toNat)) := by
  obtain ⟨k, hk⟩ : ∃ k : Nat, n.toNat = k := ⟨_, rfl⟩
  rw [hk]
  have HA := hide (fun w h => at_st w z sv bs s h)
  have HN := hide (fun w h => next_st w z sv bs s (mPlace s) k h)
  have hxl := mNext_len bs s (mPlace s) k
  generalize mNext bs s (mPlace s) k = r at HN hxl ⊢
  generalize mPlace s = q at HA HN
  obtain ⟨r1, r2⟩ := r
  by_cases hn : 0 ≤ n
  · obtain rfl : n = k := by omega
    clear hk
    go_enter Try.func19, Try.ntmps19
    go_wp2_with fail
    refine (HA.out _ h).mono ?_
    rintro e w' ⟨rfl, rfl⟩
    go_wp2_with fail
    refine (HN.out _ h).mono ?_
    rintro e w1 ⟨⟨v, rfl, hv, hrd⟩, hd, hg⟩
    cases r1 with
    | none =>
      have hv := hv rfl
      subst hv
      go_wp2
      go_ret
      exact ⟨⟨_, rfl, World.ownsRow_nil _ _ _ _⟩, hd, hg⟩
    | some xs =>
      clear hv
      simp only [Option.getD_some] at hxl hrd
      have hmk := make_u8 xs.length (by omega)
      have hcp := copy_made w1 v xs hrd
      obtain ⟨ao, c, hv, hrest⟩ := hrd
      clear hrest
      subst hv
      go_wp2
      go_ret
      exact ⟨⟨_, rfl, owns_made w1 xs (by unfold maxLen; omega) _ hg.size⟩, hd.below ((Below.refl _ _).alloc (Nat.le_refl _) _), grownBy_trans hg (World.grownBy_alloc _ _ _)⟩
  · obtain rfl : k = 0 := by omega
    clear hk
    go_enter Try.func19, Try.ntmps19
    go_wp2_with fail
    refine (HA.out _ h).mono ?_
    rintro e w' ⟨rfl, rfl⟩
    go_wp2_with fail
    refine (HN.out _ h).mono ?_
    rintro e w1 ⟨⟨v, rfl, hv, hrd⟩, hd, hg⟩
    cases r1 with
    | none =>
      have hv := hv rfl
      subst hv
      go_wp2
      go_ret
      exact ⟨⟨_, rfl, World.ownsRow_nil _ _ _ _⟩, hd, hg⟩
    | some xs =>
      clear hv
      simp only [Option.getD_some] at hxl hrd
      have hmk := make_u8 xs.length (by omega)
      have hcp := copy_made w1 v xs hrd
      obtain ⟨ao, c, hv, hrest⟩ := hrd
      clear hrest
      subst hv
      go_wp2
      go_ret
      exact ⟨⟨_, rfl, owns_made w1 xs (by unfold maxLen; omega) _ hg.size⟩, hd.below ((Below.refl _ _).alloc (Nat.le_refl _) _), grownBy_trans hg (World.grownBy_alloc _ _ _)⟩

theorem raw_nil (w : World) (n : Int) (h1 : -9223372036854775808 ≤ n) (h2 : n ≤ 9223372036854775807) : Calls Try.prog 19 #[.pointer none, .int .i64 n] w fun e w' => e = .returned (.slice none 0 0) ∧ w' = w := by
  by_cases hn : 0 ≤ n
  · obtain ⟨k, rfl⟩ := Int.eq_ofNat_of_zero_le hn
    go_enter Try.func19, Try.ntmps19
    go_wp2_with (first | (go_at_call 24; refine (at_nil _).mono ?_; rintro e w' ⟨rfl, rfl⟩) | (go_at_call 64; refine (next_nil _ _ _).mono ?_; rintro e w' ⟨rfl, rfl⟩))
    go_ret
    exact ⟨rfl, rfl⟩
  · go_enter Try.func19, Try.ntmps19
    go_wp2_with (first | (go_at_call 24; refine (at_nil _).mono ?_; rintro e w' ⟨rfl, rfl⟩) | (go_at_call 64; refine (next_nil _ _ _).mono ?_; rintro e w' ⟨rfl, rfl⟩))
    go_ret
    exact ⟨rfl, rfl⟩

/-- Text by the plain machine. -/
def mText (bs : List UInt8) (s : S) (most : Nat) : List UInt8 × S :=
  if (mNum bs s most).2.1 then ((mNext bs (mNum bs s most).2.2 (mPlace s) (mNum bs s most).1).1.getD [], (mNext bs (mNum bs s most).2.2 (mPlace s) (mNum bs s most).1).2)
  else ([], (mNum bs s most).2.2)

def TextC (w : World) (z : Nat) (sv : Value) (bs : List UInt8) (r : List UInt8 × S) (e : Ending) (w' : World) : Prop :=
  e = .returned (.string ⟨r.1.toArray⟩) ∧ DecSt w' z sv bs r.2 ∧ w.grownBy w' (some z)

set_option maxRecDepth 20000 in
set_option maxHeartbeats 800000 in
theorem text_st (w : World) (z : Nat) (sv : Value) (bs : List UInt8) (s : S) (n : Int) (h1 : -9223372036854775808 ≤ n) (h2 : n ≤ 9223372036854775807) (h : DecSt w z sv bs s) :
    Calls Try.prog 45 #[.pointer (some ⟨z, 0, none⟩), .int .i64 n] w (TextC w z sv bs (mText bs s n.toNat)) := by
  have HA := hide (fun w h => at_st w z sv bs s h)
  have HB := hide (fun w => bound_any w n h1 h2)
  have HN := hide (fun w h => number_st w z sv bs s n.toNat h)
  have hle := mNum_ok_le bs s n.toNat
  obtain ⟨r', hr'⟩ : ∃ r', mText bs s n.toNat = r' := ⟨_, rfl⟩
  rw [hr']
  unfold mText at hr'
  have HT := hide hr'
  clear hr'
  have HX := hide (fun w s' k h => next_st w z sv bs s' (mPlace s) k h)
  generalize mNum bs s n.toNat = r at HN hle HT
  generalize mPlace s = q at HA HX HT
  obtain ⟨v, ok, s'⟩ := r
  have hv63 : v ≤ 9223372036854775807 := by simp only [] at hle; omega
  clear hle
  generalize n.toNat = m at HB HN
  go_enter Try.func45, Try.ntmps45
  go_wp2_with fail
  refine (HA.out _ h).mono ?_
  rintro e w' ⟨rfl, rfl⟩
  go_wp2_with fail
  refine (HB.out _).mono ?_
  rintro e w' ⟨rfl, rfl⟩
  go_wp2_with fail
  refine (HN.out _ h).mono ?_
  rintro e w1 ⟨rfl, hd, hg⟩
  cases ok with
  | false =>
    go_wp2
    go_ret
    rw [← HT.out]
    exact ⟨rfl, hd, hg⟩
  | true =>
    go_wp2_with fail
    refine (HX.out _ _ v hd).mono ?_
    rintro e w2 ⟨⟨u, rfl, hu, hrd⟩, hd2, hg2⟩
    have hcv := conv_rd w2 u _ hrd
    clear hrd hu
    go_wp2
    go_ret
    rw [← HT.out]
    exact ⟨rfl, hd2, grownBy_trans hg hg2⟩
theorem text_nil (w : World) (n : Int) (h1 : -9223372036854775808 ≤ n) (h2 : n ≤ 9223372036854775807) : Calls Try.prog 45 #[.pointer none, .int .i64 n] w fun e w' => e = .returned (.string ⟨#[]⟩) ∧ w' = w := by
  go_enter Try.func45, Try.ntmps45
  go_wp2_with (first | (go_at_call 24; refine (at_nil _).mono ?_; rintro e w' ⟨rfl, rfl⟩) | (go_at_call 76; refine (bound_any _ _ h1 h2).mono ?_; rintro e w' ⟨rfl, rfl⟩) | (go_at_call 66; refine (number_nil _ _).mono ?_; rintro e w' ⟨rfl, rfl⟩))
  go_ret
  exact ⟨rfl, rfl⟩
end Go.Proofs.Ytinjcefekbpabaa
