/- A ring: it grows. -/
import Derived.Test.YtjdlffmiokobnaaGreatDoorGR4g
namespace Go.Proofs.YtjdlffmiokobnaaGreatDoor
set_option linter.unusedVariables false
set_option linter.unusedSimpArgs false
namespace RG
open Go.RowKit
set_option maxRecDepth 100000

/-- A ring's parts in memory. -/
structure Raw (w : World) (z g : Nat) (zT : TypeId) (S : List EL) (b c : Nat) : Prop where
  blk : Blk w z (rgL g S.length b c) zT
  row : RowEl w g S
  bot : b < S.length
  le : c ≤ S.length
  ne : z ≠ g
  sz : S.length ≤ 281474976710656
theorem Raw.same {w w' : World} {z g : Nat} {zT : TypeId} {S : List EL} {b c : Nat} (h : Raw w z g zT S b c) (h1 : w'.heap[z]? = w.heap[z]?) (h2 : w'.heap[g]? = w.heap[g]?) : Raw w' z g zT S b c := ⟨h1.trans h.blk, h2.trans h.row, h.bot, h.le, h.ne, h.sz⟩
theorem Raw.drewN {w : World} {z g : Nat} {zT : TypeId} {S : List EL} {b c : Nat} (h : Raw w z g zT S b c) (n : Nat) : Raw (w.drewN n) z g zT S b c := h.same rfl rfl
theorem Raw.below {w w' : World} {z g : Nat} {zT : TypeId} {S : List EL} {b c : Nat} (h : Raw w z g zT S b c) (hb : Below w.heap.size w w') : Raw w' z g zT S b c := h.same (hb.block _ h.blk.lt) (hb.block _ h.row.lt)
/-- What grow leaves: a new row, with room. -/
def GrowC (w : World) (z : Nat) (zT : TypeId) (M : Nat) (V : List EL) (e : Ending) (w' : World) : Prop :=
  e = .returned (.tuple #[]) ∧ ∃ g' S', Raw w' z g' zT S' 0 V.length ∧ Ring S' 0 V ∧ V.length < S'.length ∧ S'.length ≤ 2 * M + 1 ∧ w.heap.size ≤ g' ∧ Frm w w' (fun k => k = z)
section
variable {w : World} {z g : Nat} {zT : TypeId} {M : Nat} {V : List EL}
theorem grow_any (h : RgAt w z g zT M V) (hV : V.length ≤ M) (hB : EB * (2 * M + 1) ≤ 281474976710656) (hfull : ∀ S b, Blk w z (rgL g S b V.length) zT → S = V.length) : Calls Tryz.prog 142 #[.pointer (some ⟨z, 0, none⟩)] w (GrowC w z zT M V) := by
  obtain ⟨S, b, hz, hg, hR, hS⟩ := h.ex
  have hSV := hfull _ _ hz
  obtain ⟨n, hn⟩ : ∃ n, n = V.length := ⟨_, rfl⟩
  have c0 : w.cell? ⟨z, 0, none⟩ = some (.slice (some ⟨g, 0, none⟩) n n) := by rw [hz.cell, hSV, hn]; rfl
  have hzl := hz.lt
  have hEB : 1 ≤ EB := by decide
  have hM48 : 2 * M + 1 ≤ 281474976710656 := Nat.le_trans (Nat.le_mul_of_pos_left _ hEB) hB
  have hmk := fun W => run_mk (2 * n + 1) (Nat.le_trans (Nat.mul_le_mul_left EB (by omega)) hB) W
  have hcast : ((2 * n + 1 : Nat) : Int) = 2 * (n : Int) + 1 := by omega
  rw [hcast] at hmk
  obtain ⟨W, hW⟩ : ∃ W, W = w.alloc (.cells (rowC (List.replicate (2 * n + 1) elZ)).toArray elT) := ⟨_, rfl⟩
  have hb : Below w.heap.size w W := by rw [hW]; exact (Below.refl _ _).alloc (Nat.le_refl _) _
  have hd : RowEl W w.heap.size (List.replicate (2 * n + 1) elZ) := by rw [hW]; exact Blk.made w _ _
  have hRW := h.below hb
  have HLAY := hide (lay_any hRW w.heap.size (2 * n + 1) (List.replicate (2 * n + 1) elZ) hd (List.length_replicate) (by omega) (by omega) (Nat.ne_of_gt h.lt.1) (Nat.ne_of_gt h.lt.2))
  have HD := hide hd
  have HBK : Hid (Blk W z (rgL g S.length b V.length) zT) := hide (Blk.below hz hb hzl)
  have HZS : Hid (z ≠ w.heap.size) := hide (Nat.ne_of_lt hzl)
  have HB := hide hb
  have HZW := hide hRW
  have HN := hide hn
  have HV := hide hV
  have HR := hide hR
  have HM := hide hM48
  have hn0 : n ≤ 140737488355328 := by omega
  clear hz hg hR hS hb hd hRW h hfull hSV hn hB hM48 hEB hcast hV
  go_enter Tryz.func142, Tryz.ntmps142
  go_upto_region 1 with fail
  rw [← hW]
  clear hmk hW
  go_upto_region 2 with (go_at_call 114; (with_reducible refine HLAY.out.mono ?_); rintro e w2 ⟨rfl, h1, h2⟩; have H1 := hide h1; have H2 := hide h2; clear h1 h2)
  have hk2 := H2.out.blk HBK.out HZS.out
  have d0 := hk2.cell 0
  have d1 := hk2.cell 1
  have f0 := hk2.frozen 0
  have f1 := hk2.frozen 1
  have e0 : (rgL g S.length b V.length)[0]? = some (.slice (some ⟨g, 0, none⟩) S.length S.length) := rfl
  have e1 : (rgL g S.length b V.length)[1]? = some (.int .i64 (b : Int)) := rfl
  rw [e0] at d0
  rw [e1] at d1
  have HK2 := hide hk2
  have hz2 := hk2.lt
  clear hk2 e0 e1 HLAY
  go_wp2
  go_returns
  have hnV := HN.out
  have hl : (V ++ (List.replicate (2 * n + 1) elZ).drop V.length).length = 2 * n + 1 := by simp; omega
  refine ⟨rfl, w.heap.size, V ++ (List.replicate (2 * n + 1) elZ).drop V.length, ⟨?_, ?_, by rw [hl]; omega, by rw [hl]; omega, HZS.out, by rw [hl]; have q1 := HM.out; have q2 := HV.out; omega⟩, ?_, by rw [hl]; omega, by rw [hl]; have := HV.out; omega, Nat.le_refl _, ?_⟩
  · rw [hl]
    exact (HK2.out.set 0 _).set 1 _
  · exact Blk.setOther (Blk.setOther H1.out _ _ (fun e => HZS.out e.symm)) _ _ (fun e => HZS.out e.symm)
  · rw [List.drop_replicate]
    exact HR.out.grown _ (by omega) elZ
  · have f1 : Frm w w2 (fun k => k = z) := (Frm.of_below HB.out).trans H2.out (fun i hi e => by rw [e] at hi; omega)
    exact (f1.put _ _ _ (.inl rfl)).put _ _ _ (.inl rfl)
end
end RG
end Go.Proofs.YtjdlffmiokobnaaGreatDoor
