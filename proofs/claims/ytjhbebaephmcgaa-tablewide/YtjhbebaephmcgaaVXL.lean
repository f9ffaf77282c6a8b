/- The law's hash of a key. -/
import Derived.Test.YtjhbebaephmcgaaVXK
import Derived.Test.YtjhbebaephmcgaaVXM3
namespace Go.Proofs.Ytjhbebaephmcgaa
set_option linter.unusedVariables false
set_option linter.unusedSimpArgs false
namespace TX
set_option maxRecDepth 100000
set_option maxHeartbeats 8000000
open Go.RowKit Go.Sort

def hI (k : KY) : Int := IntKind.u64.wrap (IntKind.u64.wrap (IntKind.u64.wrap k.a + IntKind.u64.wrap (k.b1.toNat : Int)) + IntKind.u64.wrap (k.c.length : Int))
def hK (k : KY) : Nat := (hI k).toNat
theorem hI_in (k : KY) : 0 ≤ hI k ∧ hI k < 18446744073709551616 := by
  unfold hI
  simp [IntKind.wrap, IntKind.bits, IntKind.signed]
  omega
theorem hK_is (k : KY) : (hK k : Int) = hI k := by
  have := hI_in k
  unfold hK
  omega
theorem hK_lt (k : KY) : hK k < 18446744073709551616 := by
  have := hI_in k
  unfold hK
  omega
theorem hash_any (w : World) (k : KY) : Calls Try.prog 5 #[kV k] w fun e w' => e = .returned (.int .u64 (hK k : Int)) ∧ Below w.heap.size w w' := by
  go_enter Try.func5, Try.ntmps5
  go_upto_region 1 with fail
  refine name_world (fun W => Below w.heap.size w W ∧ KB W w.heap.size k) ⟨below_alloc w _, KB.made w k⟩ ?_
  rintro W ⟨hB, hK⟩
  have HB := hide hB
  obtain ⟨kb, hkb⟩ : ∃ kb, kb = w.heap.size := ⟨_, rfl⟩
  rw [← hkb] at hK ⊢
  have c0 : W.cell? ⟨kb, 0, none⟩ = some (.int .i8 k.a) := hK.rng 0 _ rfl
  have c2 : W.cell? ⟨kb, 2, none⟩ = some (.int .u8 (k.b1.toNat : Int)) := hK.rng 2 _ rfl
  have c3 : W.cell? ⟨kb, 3, none⟩ = some (.string ⟨k.c.toArray⟩) := hK.rng 3 _ rfl
  have lk := hK.lt
  clear hB hK hkb
  go_wp2
  go_ret
  refine ⟨?_, HB.out⟩
  show Ending.returned (.int .u64 (hI k)) = _
  rw [hK_is]
abbrev HFN : Nat := 5
theorem hash_is : HsAt HFN hK := ⟨hash_any, hK_lt, enters_of Try.func5 (by kernel_rfl) rfl⟩
end TX
end Go.Proofs.Ytjhbebaephmcgaa
