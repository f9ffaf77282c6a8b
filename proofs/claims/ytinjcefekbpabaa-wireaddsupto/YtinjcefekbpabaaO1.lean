/- copied, Open and the document's Open. -/
import Derived.Test.YtinjcefekbpabaaR7
namespace Go.Proofs.Ytinjcefekbpabaa
set_option linter.unusedVariables false
set_option linter.unusedSimpArgs false
open Go.RowKit

theorem Rd.form {w : World} {v : Value} {xs : List UInt8} (h : Rd w v xs) : (v = .slice none 0 0 ∧ xs = []) ∨ ∃ b o c, v = .slice (some ⟨b, o, none⟩) xs.length c ∧ ∀ i (h : i < xs.length), w.cell? ⟨b, o + i, none⟩ = some (u8c xs[i]) := by
  obtain ⟨ao, c, rfl, hc, hm, ⟨rfl, rfl⟩ | ⟨b, o, rfl, hcell⟩⟩ := h
  · obtain rfl : xs = [] := List.eq_nil_of_length_eq_zero (by omega)
    exact .inl ⟨rfl, rfl⟩
  · exact .inr ⟨b, o, c, rfl, hcell⟩
theorem Rd_news {w : World} {b o : Nat} {xs : List UInt8} (h : ∀ i (h : i < xs.length), w.cell? ⟨b, o + i, none⟩ = some (u8c xs[i])) : ∀ j u, (xs.map u8c)[j]? = some u → w.cell? ((⟨b, o, none⟩ : Addr).add j) = some u := by
  intro j u hj
  rw [Addr.add_mid]
  exact rangeRd h j u hj
theorem Rd.below {w w' : World} {v : Value} {xs : List UInt8} (h : Rd w v xs) (hb : Below w.heap.size w w') : Rd w' v xs := by
  obtain ⟨ao, c, e, hc, hm, h | ⟨b, o, e2, hcell⟩⟩ := h
  · exact ⟨ao, c, e, hc, hm, .inl h⟩
  · exact ⟨ao, c, e, hc, hm, .inr ⟨b, o, e2, fun i hi => (hb.cell (World.block_lt_of_cell? w _ (hcell i hi))).trans (hcell i hi)⟩⟩

theorem copied_any (w : World) (v : Value) (xs : List UInt8) (h : Rd w v xs) (hlen : xs.length ≤ 140737488355000) :
    Calls Try.prog 10 #[v] w fun e w' => ∃ v', e = .returned v' ∧ w'.ownsRow w.heap.size 5 1 v' xs.length (xs.map u8c) ∧ Below w.heap.size w w' := by
  obtain ⟨i0, hi, hz0, hz1, hz2⟩ := info_parts infoU8
  rcases h.form with ⟨rfl, rfl⟩ | ⟨b, o, c, rfl, hcell⟩
  · go_enter Try.func10, Try.ntmps10
    go_wp2
    go_ret
    exact ⟨_, rfl, World.ownsRow_nil _ _ _ _, Below.refl _ _⟩
  · have HN := hide (Rd_news hcell)
    have HO := hide (u8c_one xs)
    have HL := hide (show (xs.map u8c).length = xs.length * 1 by simp)
    clear h hcell
    go_enter Try.func10, Try.ntmps10
    go_wp2_with (at_builtin; refine wpList_append_own _ rfl _ _ 28 rfl w.heap.size 5 i0 (.int .u8 0) 1 1 Try.underlying28 hi hz0 hz1 hz2 rfl (by decide) (.slice none 0 0) 0 [] rfl (World.ownsRow_nil _ _ _ _) ⟨b, o, none⟩ xs.length c (xs.map u8c) rfl HL.out HN.out HO.out (by unfold maxLen; omega) (by omega) (Nat.le_refl _) ?_)
    intro v' w1 hown hgrow _
    go_wp2
    go_ret
    exact ⟨v', rfl, by simpa using hown, ⟨hgrow.os, hgrow.tape, hgrow.output, hgrow.size, fun k hk => hgrow.block k hk (by simp [Value.ownBlock])⟩⟩

def s0 : S := ⟨0, 0, 0⟩
set_option maxRecDepth 20000 in
theorem open_any (w : World) (v : Value) (xs : List UInt8) (h : Rd w v xs) (hlen : xs.length ≤ 140737488355000) :
    Calls Try.prog 13 #[v] w fun e w' => e = .returned (.pointer (some ⟨w.heap.size + 1, 0, none⟩)) ∧ DecSt w' (w.heap.size + 1) (.slice (some ⟨w.heap.size, 0, none⟩) xs.length xs.length) xs s0 ∧ Below w.heap.size w w' ∧ w'.heap.size = w.heap.size + 2 := by
  have hmk := make_u8 xs.length (by omega)
  have hcp := copy_made w v xs h
  obtain ⟨ao, c, hv, hrest⟩ := h
  clear hrest
  subst hv
  go_enter Try.func13, Try.ntmps13
  go_wp2
  go_ret
  refine ⟨rfl, ⟨⟨by unfold maxLen; omega, .inr ⟨w.heap.size, rfl, by omega, (Blk.made w _ _).alloc _⟩⟩, Nat.zero_le _, ?_⟩, ((Below.refl _ _).alloc (Nat.le_refl _) _).alloc (by simp) _, by simp⟩
  have := Blk.made (w.alloc (.cells (xs.map u8c).toArray 5)) #[.slice (some ⟨w.heap.size, 0, none⟩) xs.length xs.length, .int .i64 0, .int .i64 0, .int .i64 0] 92
  rw [World.size_alloc] at this
  exact this

def ROpenC (w : World) (xs : List UInt8) (e : Ending) (w' : World) : Prop :=
  ∃ rv, e = .returned (.pointer (some ⟨w.heap.size, 0, none⟩)) ∧ RefSt w' w.heap.size rv xs s0 ∧ Below w.heap.size w w' ∧ (∀ b cap, rv = .slice (some ⟨b, 0, none⟩) xs.length cap → w.heap.size < b)
set_option maxRecDepth 20000 in
set_option maxHeartbeats 800000 in
theorem ropen_any (w : World) (v : Value) (xs : List UInt8) (h : Rd w v xs) (hlen : xs.length ≤ 140737488355000) :
    Calls Try.prog 14 #[v] w (ROpenC w xs) := by
  obtain ⟨i0, hi, hz0, hz1, hz2⟩ := info_parts infoU8
  rcases h.form with ⟨rfl, rfl⟩ | ⟨b, o, c, rfl, hcell⟩
  · go_enter Try.func14, Try.ntmps14
    go_wp2
    go_ret
    exact ⟨.slice none 0 0, rfl, ⟨⟨Nat.zero_le _, .inl ⟨rfl, rfl⟩⟩, Nat.zero_le _, Blk.made w _ _⟩, (Below.refl _ _).alloc (Nat.le_refl _) _, fun b cap e => by cases e⟩
  · have HN := hide (Rd_news (w := w.alloc (.cells #[.slice none 0 0, .int .i64 0, .bool false, .int .i64 0, .int .i64 0] 94)) (fun i hi => (World.cell?_alloc_lt w _ ⟨b, o + i, none⟩ (World.block_lt_of_cell? w _ (hcell i hi))).trans (hcell i hi)))
    have HO := hide (u8c_one xs)
    have HL := hide (show (xs.map u8c).length = xs.length * 1 by simp)
    clear h hcell
    go_enter Try.func14, Try.ntmps14
    go_wp2_with (at_builtin; refine wpList_append_own _ rfl _ _ 28 rfl (w.heap.size + 1) 5 i0 (.int .u8 0) 1 1 Try.underlying28 hi hz0 hz1 hz2 rfl (by decide) (.slice none 0 0) 0 [] rfl (World.ownsRow_nil _ _ _ _) ⟨b, o, none⟩ xs.length c (xs.map u8c) rfl HL.out HN.out HO.out (by unfold maxLen; omega) (by omega) (by rw [World.size_alloc]; omega) ?_)
    intro v' w1 hown hgrow _
    have hB : Blk w1 w.heap.size #[.slice none 0 0, .int .i64 0, .bool false, .int .i64 0, .int .i64 0] 94 := (Blk.made w _ _).grown hgrow (by simp [Value.ownBlock])
    have c0 := hB.cell 0
    have f0 := hB.frozen 0
    have hb1 : Below w.heap.size w w1 := ⟨hgrow.os, hgrow.tape, hgrow.output, by have := hgrow.size; simp at this; omega, fun k hk => (hgrow.block k (by simp; omega) (by simp [Value.ownBlock])).trans (Below.heap_alloc w _ k hk)⟩
    have HB := hide hB
    have HBW := hide hb1
    obtain ⟨hl, ⟨rfl, hx⟩ | ⟨g, cap, cur, rfl, hg, hgh, hgc, hcm, hcs, hct⟩⟩ := hown
    · obtain rfl : xs = [] := List.eq_nil_of_length_eq_zero hx
      clear hgrow hb1 hB hl hx
      go_wp2
      go_ret
      exact ⟨.slice none 0 0, rfl, ⟨⟨Nat.zero_le _, .inl ⟨rfl, rfl⟩⟩, Nat.zero_le _, Blk.set HB.out 0 _⟩, HBW.out.setCell (Nat.le_refl _) _, fun b cap e => by cases e⟩
    · have HGH := hide hgh
      have HCT := hide hct
      clear hgrow hb1 hB hl hgh hct hcs
      go_wp2
      go_ret
      refine ⟨.slice (some ⟨g, 0, none⟩) xs.length cap, rfl, ⟨⟨by unfold maxLen; omega, .inr ⟨g, cap, cur, rfl, hgc, hcm, by omega, Blk.setOther HGH.out _ _ (by simp; omega), by have := HCT.out; rwa [Nat.mul_one] at this⟩⟩, Nat.zero_le _, Blk.set HB.out 0 _⟩, HBW.out.setCell (Nat.le_refl _) _, fun b cap' e => by cases e; omega⟩

/-- A slice of bytes that came in: one that can be read, or one without a place for a byte, of whatever address. -/
def RdA (w : World) (v : Value) (xs : List UInt8) : Prop := Rd w v xs ∨ ∃ a, v = .slice (some a) 0 0 ∧ xs = []
theorem RdA.slice {w : World} {v : Value} {zs : List UInt8} (h : RdA w v zs) : ∃ ao c, v = .slice ao zs.length c ∧ zs.length ≤ 9223372036854775807 := by
  rcases h with ⟨ao, c, rfl, hc, hm, _⟩ | ⟨a, rfl, rfl⟩
  · exact ⟨ao, c, rfl, by unfold maxLen at hm; omega⟩
  · exact ⟨some a, 0, rfl, by simp⟩
theorem RdA.below {w w' : World} {v : Value} {xs : List UInt8} (h : RdA w v xs) (hb : Below w.heap.size w w') : RdA w' v xs := by
  rcases h with h | h
  · exact .inl (h.below hb)
  · exact .inr h
theorem copied_arg (w : World) (v : Value) (xs : List UInt8) (h : RdA w v xs) (hlen : xs.length ≤ 140737488355000) :
    Calls Try.prog 10 #[v] w fun e w' => ∃ v', e = .returned v' ∧ w'.ownsRow w.heap.size 5 1 v' xs.length (xs.map u8c) ∧ Below w.heap.size w w' := by
  rcases h with h | ⟨a, rfl, rfl⟩
  · exact copied_any w v xs h hlen
  · obtain ⟨i0, hi, hz0, hz1, hz2⟩ := info_parts infoU8
    go_enter Try.func10, Try.ntmps10
    go_wp2_with (at_builtin; refine wpList_append_own _ rfl _ _ 28 rfl w.heap.size 5 i0 (.int .u8 0) 1 1 Try.underlying28 hi hz0 hz1 hz2 rfl (by decide) (.slice none 0 0) 0 [] rfl (World.ownsRow_nil _ _ _ _) a 0 0 [] rfl rfl (by intro j u hj; simp at hj) (by intro u hu; simp at hu) (by decide) (by decide) (Nat.le_refl _) ?_)
    intro v' w1 hown hgrow _
    go_wp2
    go_ret
    exact ⟨v', rfl, by simpa using hown, ⟨hgrow.os, hgrow.tape, hgrow.output, hgrow.size, fun k hk => hgrow.block k hk (by simp [Value.ownBlock])⟩⟩
set_option maxRecDepth 20000 in
set_option maxHeartbeats 800000 in
theorem ropen_arg (w : World) (v : Value) (xs : List UInt8) (h : RdA w v xs) (hlen : xs.length ≤ 140737488355000) :
    Calls Try.prog 14 #[v] w (ROpenC w xs) := by
  rcases h with h | ⟨a, rfl, rfl⟩
  · exact ropen_any w v xs h hlen
  · obtain ⟨i0, hi, hz0, hz1, hz2⟩ := info_parts infoU8
    go_enter Try.func14, Try.ntmps14
    go_wp2_with (at_builtin; refine wpList_append_own _ rfl _ _ 28 rfl (w.heap.size + 1) 5 i0 (.int .u8 0) 1 1 Try.underlying28 hi hz0 hz1 hz2 rfl (by decide) (.slice none 0 0) 0 [] rfl (World.ownsRow_nil _ _ _ _) a 0 0 [] rfl rfl (by intro j u hj; simp at hj) (by intro u hu; simp at hu) (by decide) (by decide) (by rw [World.size_alloc]; omega) ?_)
    intro v' w1 hown hgrow hnil
    obtain rfl : v' = .slice none 0 0 := by simpa using hnil
    have hB : Blk w1 w.heap.size #[.slice none 0 0, .int .i64 0, .bool false, .int .i64 0, .int .i64 0] 94 := (Blk.made w _ _).grown hgrow (by simp [Value.ownBlock])
    have c0 := hB.cell 0
    have f0 := hB.frozen 0
    have hb1 : Below w.heap.size w w1 := ⟨hgrow.os, hgrow.tape, hgrow.output, by have := hgrow.size; simp at this; omega, fun k hk => (hgrow.block k (by simp; omega) (by simp [Value.ownBlock])).trans (Below.heap_alloc w _ k hk)⟩
    have HB := hide hB
    have HBW := hide hb1
    clear hgrow hb1 hB hown hnil
    go_wp2
    go_ret
    exact ⟨.slice none 0 0, rfl, ⟨⟨Nat.zero_le _, .inl ⟨rfl, rfl⟩⟩, Nat.zero_le _, Blk.set HB.out 0 _⟩, HBW.out.setCell (Nat.le_refl _) _, fun b cap e => by cases e⟩
end Go.Proofs.Ytinjcefekbpabaa
