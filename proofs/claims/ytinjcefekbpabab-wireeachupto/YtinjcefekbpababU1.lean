/- took as a whole. -/
import Derived.Test.YtinjcefekbpababR9
import Derived.Test.YtinjcefekbpababR7k5
import Derived.Test.YtinjcefekbpababR7k7
import Derived.Test.YtinjcefekbpababR7k9
import Derived.Test.YtinjcefekbpababR7k11
namespace Go.Proofs.Ytinjcefekbpabab
set_option linter.unusedVariables false
set_option linter.unusedSimpArgs false
open Go.RowKit

theorem took_st (w : World) (y : Nat) (rv : Value) (bs : List UInt8) (s : S) (kind : Int) (most : Nat) (n : Int) (h1 : -9223372036854775808 ≤ n) (h2 : n ≤ 9223372036854775807) (hlen : bs.length ≤ 140737488351232) (h : RefSt w y rv bs s) :
    Calls Try.prog 22 #[.pointer (some ⟨y, 0, none⟩), .agg #[.int .i64 kind, .int .u64 most, .int .i64 n]] w (TookC w y rv bs (rTake bs s kind most n)) := by
  by_cases k1 : kind = 1
  · subst k1
    exact took_1 w y rv bs s most n hlen h
  by_cases k2 : kind = 2
  · subst k2
    exact took_2 w y rv bs s most n h1 h2 hlen h
  by_cases k3 : kind = 3
  · subst k3
    exact took_3 w y rv bs s most n hlen h
  by_cases k4 : kind = 4
  · subst k4
    exact took_4 w y rv bs s most n hlen h
  by_cases k5 : kind = 5
  · subst k5
    exact took_5 w y rv bs s most n hlen h
  by_cases k6 : kind = 6
  · subst k6
    exact took_6 w y rv bs s most n hlen h
  by_cases k7 : kind = 7
  · subst k7
    exact took_7 w y rv bs s most n hlen h
  by_cases k8 : kind = 8
  · subst k8
    exact took_8 w y rv bs s most n hlen h
  by_cases k9 : kind = 9
  · subst k9
    exact took_9 w y rv bs s most n hlen h
  by_cases k10 : kind = 10
  · subst k10
    exact took_10 w y rv bs s most n hlen h
  by_cases k11 : kind = 11
  · subst k11
    exact took_11 w y rv bs s most n hlen h
  by_cases k12 : kind = 12
  · subst k12
    exact took_12 w y rv bs s most n hlen h
  by_cases k13 : kind = 13
  · subst k13
    exact took_13 w y rv bs s most n h1 h2 hlen h
  unfold rTake mTake
  rw [if_neg k2, if_neg k1, if_neg k2, if_neg k3, if_neg k4, if_neg k5, if_neg k6, if_neg k7, if_neg k8, if_neg k9, if_neg k10, if_neg k11, if_neg k12, if_neg k13]
  exact took_0 w y rv bs s kind most n h (beq_eq_false_iff_ne.2 k1) (beq_eq_false_iff_ne.2 k2) (beq_eq_false_iff_ne.2 k3) (beq_eq_false_iff_ne.2 k4) (beq_eq_false_iff_ne.2 k5) (beq_eq_false_iff_ne.2 k6) (beq_eq_false_iff_ne.2 k7) (beq_eq_false_iff_ne.2 k8) (beq_eq_false_iff_ne.2 k9) (beq_eq_false_iff_ne.2 k10) (beq_eq_false_iff_ne.2 k11) (beq_eq_false_iff_ne.2 k12) (beq_eq_false_iff_ne.2 k13)

end Go.Proofs.Ytinjcefekbpabab
