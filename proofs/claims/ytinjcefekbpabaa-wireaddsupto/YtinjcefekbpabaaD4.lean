/- number, Var, Raw, Key, Text on a wire.Dec that lies in memory. -/
import Derived.Test.YtinjcefekbpabaaD3
namespace Go.Proofs.Ytinjcefekbpabaa
set_option linter.unusedVariables false
set_option linter.unusedSimpArgs false
open Go.RowKit

theorem first_is (w : World) (sv : Value) (xs : List UInt8) (v n c : Nat) (hr : firstGo 0 0 xs = (v, n, c)) (h : Rd w sv xs) :
    Calls Try.prog 79 #[sv] w fun e w' => e = .returned (.tuple #[.int .u64 v, .int .i64 n, .int .i64 c]) ∧ w' = w := by
  have := first_any w sv xs h
  rw [hr] at this
  exact this

theorem Rd_drop_some {w : World} {b : Nat} {bs : List UInt8} (hm : bs.length ≤ maxLen) (hB : Blk w b (bs.map u8c).toArray 5) (p : Nat) (hp : p < bs.length) : Rd w (.slice (some ⟨b, p, none⟩) (bs.length - p) (bs.length - p)) (bs.drop p) := by
  refine ⟨some ⟨b, p, none⟩, bs.length - p, by rw [List.length_drop], by rw [List.length_drop]; omega, by omega, .inr ⟨b, p, rfl, fun i hi => ?_⟩⟩
  rw [hB.cell]
  rw [List.length_drop] at hi
  have hlt : p + i < bs.length := by omega
  simp [List.getElem?_eq_getElem hlt]
theorem Rd_none (w : World) : Rd w (.slice none 0 0) [] := ⟨none, 0, rfl, Nat.le_refl _, Nat.zero_le _, .inl ⟨rfl, rfl⟩⟩
theorem Rd_at (w : World) (b o : Nat) : Rd w (.slice (some ⟨b, o, none⟩) 0 0) [] := ⟨some ⟨b, o, none⟩, 0, rfl, Nat.le_refl _, Nat.zero_le _, .inr ⟨b, o, rfl, fun i hi => by simp at hi⟩⟩

theorem number_nil (w : World) (most : Int) : Calls Try.prog 66 #[.pointer none, .int .u64 most] w fun e w' => e = .returned (.tuple #[.int .u64 0, .bool false]) ∧ w' = w := by
  go_enter Try.func66, Try.ntmps66
  go_wp2_with (go_at_call 65; refine (over_nil _).mono ?_; rintro e w' ⟨rfl, rfl⟩)
  go_ret2
  exact ⟨rfl, rfl⟩
theorem number_stopped (w : World) (z : Nat) (sv : Value) (pos fat code : Int) (most : Int) (hc : (code != 0) = true) (h : DecAt w z sv pos fat code) : Calls Try.prog 66 #[.pointer (some ⟨z, 0, none⟩), .int .u64 most] w fun e w' => e = .returned (.tuple #[.int .u64 0, .bool false]) ∧ w' = w := by
  go_enter Try.func66, Try.ntmps66
  go_wp2_with (go_at_call 65; refine (over_stopped _ z sv pos fat code hc h).mono ?_; rintro e w' ⟨rfl, rfl⟩)
  go_ret2
  exact ⟨rfl, rfl⟩

/-- What a number leaves. -/
def NumOk (w : World) (z : Nat) (sv : Value) (p : Nat) (v : Nat) (ok : Bool) (p' : Nat) (fat' code' : Int) (e : Ending) (w' : World) : Prop :=
  e = .returned (.tuple #[.int .u64 v, .bool ok]) ∧ DecAt w' z sv p' fat' code' ∧ w.grownBy w' (some z)

set_option maxHeartbeats 1600000 in
theorem number_ok (w : World) (z : Nat) (sv : Value) (bs : List UInt8) (p : Nat) (fat : Int) (most v n : Nat) (hb : Bts w z sv bs) (hp : p ≤ bs.length) (h : DecAt w z sv p fat 0)
    (hr : firstGo 0 0 (bs.drop p) = (v, n, 0)) (hn : p + n ≤ bs.length) (hv : v ≤ most) :
    Calls Try.prog 66 #[.pointer (some ⟨z, 0, none⟩), .int .u64 most] w (NumOk w z sv p v true (p + n) fat 0) := by
  have c0 := h.c0
  have c1 := h.c1
  have f1 := Blk.frozen h 1
  have HR := hide hr
  clear hr
  have hle : (v : Int) ≤ (most : Int) := by omega
  obtain ⟨hm, ⟨rfl, rfl⟩ | ⟨b, rfl, hne, hB⟩⟩ := hb
  · have hp0 : p = 0 := by simp at hp; omega
    have hn0 : n = 0 := by simp at hn; omega
    subst hp0; subst hn0
    exact absurd (congrArg (fun q : Nat × Nat × Nat => q.2.2) HR.out) (by show ¬ (10 : Nat) = 0; decide)
  · by_cases hpe : p = bs.length
    · subst hpe
      have := HR.out
      rw [List.drop_length] at this
      exact absurd (congrArg (fun q : Nat × Nat × Nat => q.2.2) this) (by show ¬ (10 : Nat) = 0; decide)
    · have hpn : ¬ bs.length = p := fun e => hpe e.symm
      have hrd := fun (m : Nat) => Rd_drop_some hm (Blk.drewN hB m) p (by omega)
      have HD := hide hrd
      have hm2 : bs.length ≤ 9223372036854775807 := hm
      clear hrd hpe
      go_enter Try.func66, Try.ntmps66
      go_wp2_with (go_at_call 65; refine (over_go _ z _ _ fat h).mono ?_; rintro e w' ⟨rfl, rfl⟩)
      go_quiet ((go_at_call 79; exact Calls.quiet_of_same (first_is _ _ _ v n 0 HR.out (HD.out _))))
      go_wp2
      go_ret2
      exact ⟨rfl, Blk.set (Blk.drewN h _) 1 (.int .i64 (p + n : Nat)), grownBy_trans (grownBy_drewN _ _ _) (grownBy_set _ z 1 _)⟩

set_option maxHeartbeats 1600000 in
theorem number_beyond (w : World) (z : Nat) (sv : Value) (bs : List UInt8) (p : Nat) (fat : Int) (most v n : Nat) (hb : Bts w z sv bs) (hp : p ≤ bs.length) (h : DecAt w z sv p fat 0)
    (hr : firstGo 0 0 (bs.drop p) = (v, n, 0)) (hv : most < v) :
    Calls Try.prog 66 #[.pointer (some ⟨z, 0, none⟩), .int .u64 most] w (NumOk w z sv p 0 false p p 12) := by
  have c0 := h.c0
  have c1 := h.c1
  have HR := hide hr
  clear hr
  have hle : (most : Int) < (v : Int) := by omega
  obtain ⟨hm, ⟨rfl, rfl⟩ | ⟨b, rfl, hne, hB⟩⟩ := hb
  · have := HR.out
    rw [List.drop_nil] at this
    exact absurd (congrArg (fun q : Nat × Nat × Nat => q.2.2) this) (by show ¬ (10 : Nat) = 0; decide)
  · by_cases hpe : p = bs.length
    · subst hpe
      have := HR.out
      rw [List.drop_length] at this
      exact absurd (congrArg (fun q : Nat × Nat × Nat => q.2.2) this) (by show ¬ (10 : Nat) = 0; decide)
    · have hpn : ¬ bs.length = p := fun e => hpe e.symm
      have hrd := fun (m : Nat) => Rd_drop_some hm (Blk.drewN hB m) p (by omega)
      have HD := hide hrd
      have hm2 : bs.length ≤ 9223372036854775807 := hm
      clear hrd hpe
      go_enter Try.func66, Try.ntmps66
      go_wp2_with (go_at_call 65; refine (over_go _ z _ _ fat h).mono ?_; rintro e w' ⟨rfl, rfl⟩)
      go_quiet ((go_at_call 79; exact Calls.quiet_of_same (first_is _ _ _ v n 0 HR.out (HD.out _))))
      go_wp2_with (go_at_call 77; refine (stop_go _ z _ p fat p 12 (Blk.drewN h _)).mono ?_; rintro e w' ⟨rfl, hd, hg⟩)
      go_ret2
      exact ⟨rfl, hd, grownBy_trans (grownBy_drewN _ _ _) hg⟩

set_option maxHeartbeats 1600000 in
theorem number_bad (w : World) (z : Nat) (sv : Value) (bs : List UInt8) (p : Nat) (fat : Int) (most v n c : Nat) (hb : Bts w z sv bs) (hp : p ≤ bs.length) (h : DecAt w z sv p fat 0)
    (hr : firstGo 0 0 (bs.drop p) = (v, n, c)) (hc : ((c : Int) == 0) = false) (hc2 : ((c : Int) != 0) = true) :
    Calls Try.prog 66 #[.pointer (some ⟨z, 0, none⟩), .int .u64 most] w (NumOk w z sv p 0 false p p c) := by
  have c0 := h.c0
  have c1 := h.c1
  have HR := hide hr
  clear hr
  obtain ⟨hm, ⟨rfl, rfl⟩ | ⟨b, rfl, hne, hB⟩⟩ := hb
  · have hp0 : p = 0 := by simp at hp; omega
    subst hp0
    have hrd := fun (m : Nat) => Rd_none (w.drewN m)
    have HD := hide hrd
    clear hrd
    have HR2 : Hid (firstGo 0 0 [] = (v, n, c)) := HR
    go_enter Try.func66, Try.ntmps66
    go_wp2_with (go_at_call 65; refine (over_go _ z _ _ fat h).mono ?_; rintro e w' ⟨rfl, rfl⟩)
    go_quiet ((go_at_call 79; exact Calls.quiet_of_same (first_is _ _ _ v n c HR2.out (HD.out _))))
    go_wp2_with (go_at_call 77; refine (stop_go _ z _ 0 fat 0 c (Blk.drewN h _)).mono ?_; rintro e w' ⟨rfl, hd, hg⟩)
    go_ret2
    exact ⟨rfl, hd, grownBy_trans (grownBy_drewN _ _ _) hg⟩
  · by_cases hpe : p = bs.length
    · subst hpe
      have HR2 : Hid (firstGo 0 0 [] = (v, n, c)) := by have := HR.out; rw [List.drop_length] at this; exact this
      have hrd := fun (m : Nat) => Rd_at (w.drewN m) b 0
      have HD := hide hrd
      have hm2 : bs.length ≤ 9223372036854775807 := hm
      clear hrd HR
      go_enter Try.func66, Try.ntmps66
      go_wp2_with (go_at_call 65; refine (over_go _ z _ _ fat h).mono ?_; rintro e w' ⟨rfl, rfl⟩)
      go_quiet ((go_at_call 79; exact Calls.quiet_of_same (first_is _ _ _ v n c HR2.out (HD.out _))))
      go_wp2_with (go_at_call 77; refine (stop_go _ z _ bs.length fat bs.length c (Blk.drewN h _)).mono ?_; rintro e w' ⟨rfl, hd, hg⟩)
      go_ret2
      exact ⟨rfl, hd, grownBy_trans (grownBy_drewN _ _ _) hg⟩
    · have hpn : ¬ bs.length = p := fun e => hpe e.symm
      have hrd := fun (m : Nat) => Rd_drop_some hm (Blk.drewN hB m) p (by omega)
      have HD := hide hrd
      have hm2 : bs.length ≤ 9223372036854775807 := hm
      clear hrd hpe
      go_enter Try.func66, Try.ntmps66
      go_wp2_with (go_at_call 65; refine (over_go _ z _ _ fat h).mono ?_; rintro e w' ⟨rfl, rfl⟩)
      go_quiet ((go_at_call 79; exact Calls.quiet_of_same (first_is _ _ _ v n c HR.out (HD.out _))))
      go_wp2_with (go_at_call 77; refine (stop_go _ z _ p fat p c (Blk.drewN h _)).mono ?_; rintro e w' ⟨rfl, hd, hg⟩)
      go_ret2
      exact ⟨rfl, hd, grownBy_trans (grownBy_drewN _ _ _) hg⟩
end Go.Proofs.Ytinjcefekbpabaa
