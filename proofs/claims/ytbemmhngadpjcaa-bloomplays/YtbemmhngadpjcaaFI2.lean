/- The two numbers of a key. -/
import Derived.Test.YtbemmhngadpjcaaFI1
namespace Go.Proofs.Ytbemmhngadpjcaa
set_option linter.unusedVariables false
set_option linter.unusedSimpArgs false
open Go.RowKit

def NumsC (w : World) (kb : List UInt8) (e : Ending) (w' : World) : Prop := e = .returned (.tuple #[.int .u64 (keyA kb), .int .u64 (keyB kb)]) ∧ Below w.heap.size w w'
theorem below_of_grown {w1 w2 : World} {B z : Nat} (h : w1.grownBy w2 (some z)) (hz : B ≤ z) (hB : B ≤ w1.heap.size) : Below B w1 w2 := below_grownBy h hz hB
set_option maxRecDepth 20000 in
set_option maxHeartbeats 2000000 in
theorem numbers_any (w : World) (kb : List UInt8) (hk : kb.length = 32) : Calls Try.prog 54 #[.agg (kb.map u8c).toArray] w (NumsC w kb) := by
  obtain ⟨K, hK⟩ : ∃ K, K = (kb.map u8c).toArray := ⟨_, rfl⟩
  rw [← hK]
  have hKs : K.size = 32 := by rw [hK]; simp [hk]
  have h16 : (kb.take 16).length = 16 := by simp [hk]
  have HB := hide (Blk.made w K 36)
  have hcut := cut16
  have C := hide (open_any (w.alloc (.cells K 36)) _ (kb.take 16) (by have := HB.out; rw [hK] at this; rw [hK]; exact rd16 this hk) (by omega))
  have HA : Hid (keyA kb = leNat ((kb.take 16).take 8)) := hide (by unfold keyA; rw [List.take_take]; rfl)
  have HBb : Hid (keyB kb = leNat (((kb.take 16).drop 8).take 8)) := hide (by unfold keyB; rw [List.drop_take, List.take_take]; rfl)
  have h1 := keyA_lt kb
  have h2 := keyB_lt kb
  clear hK hk
  go_enter Try.func54, Try.ntmps54
  go_wp2_with fail
  refine C.out.mono ?_
  rintro e w1 ⟨rfl, hd, hb, hsz⟩
  have hb0 := (Below.refl w.heap.size w).alloc (Nat.le_refl _) (.cells K 36)
  have HB1 := hide (hb0.trans (hb.mono (by simp)))
  have hz1 : w1.heap.size = w.heap.size + 1 + 2 := by rw [hsz, World.size_alloc]
  obtain ⟨z, hz⟩ : ∃ z, z = (w.alloc (.cells K 36)).heap.size + 1 := ⟨_, rfl⟩
  obtain ⟨sv, hsv⟩ : ∃ sv, sv = Value.slice (some ⟨(w.alloc (.cells K 36)).heap.size, 0, none⟩) (kb.take 16).length (kb.take 16).length := ⟨_, rfl⟩
  rw [← hz, ← hsv] at hd
  rw [← hz]
  have hzb : w.heap.size ≤ z := by rw [hz, World.size_alloc]; omega
  have HT := hide (take_uint64 w1 z sv (kb.take 16) s0 hd)
  rw [next1 _ h16] at HT
  clear hb hd hsz hb0 C hz hsv hcut
  go_wp2_with fail
  refine HT.out.mono ?_
  rintro e w2 ⟨rfl, hd2, hg2⟩
  have HT2 := hide (take_uint64 w2 z sv (kb.take 16) _ hd2)
  rw [next2 _ h16] at HT2
  have HB2 := hide (HB1.out.trans (below_grownBy (B := w.heap.size) hg2 hzb (by omega)))
  have hz2 : w.heap.size + 3 ≤ w2.heap.size := by have := hg2.size; omega
  clear hd2 hg2 HT HB1
  go_wp2_with fail
  refine HT2.out.mono ?_
  rintro e w3 ⟨rfl, hd3, hg3⟩
  have HB3 := hide (HB2.out.trans (below_grownBy (B := w.heap.size) hg3 hzb (by omega)))
  clear hd3 hg3 HT2 HB2
  go_wp2
  go_ret2
  refine ⟨?_, HB3.out⟩
  show Ending.returned (.tuple #[.int .u64 (IntKind.u64.wrap (leNat ((kb.take 16).take 8) : Nat)), .int .u64 (IntKind.u64.wrap (leNat (((kb.take 16).drop 8).take 8) : Nat))]) = _
  rw [← HA.out, ← HBb.out, wrapu64_nat _ h1, wrapu64_nat _ h2]
end Go.Proofs.Ytbemmhngadpjcaa
