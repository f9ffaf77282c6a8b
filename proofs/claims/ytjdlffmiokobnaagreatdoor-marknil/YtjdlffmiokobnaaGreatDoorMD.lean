/- A new marker over parts that are there, and over some that are not. -/
import Derived.Test.YtjdlffmiokobnaaGreatDoorMC
namespace Go.Proofs.YtjdlffmiokobnaaGreatDoor
set_option linter.unusedVariables false
set_option linter.unusedSimpArgs false
namespace MA
set_option maxRecDepth 100000
set_option maxHeartbeats 8000000
open Go.RowKit TX

/-- A key's box, an arena, an index, a list: all behind the world w0. -/
structure MSt (w0 W : World) (kb : Nat) (k : KY) (a s mb x : Nat) (L : List Tab) (lz lg P : Nat) : Prop where
  bel : Below w0.heap.size w0 W
  key : KB W kb k
  ar : Ar W a s mb
  ix : IxL W x 16 L (fun _ => none) P
  li : RG.RgAt W lz lg RG.LT 1 []
  lowx : ∀ b, IxB x L b → w0.heap.size ≤ b
  lowl : w0.heap.size ≤ lz ∧ w0.heap.size ≤ lg
section
variable {w0 W W' : World} {kb : Nat} {k : KY} {a s mb x : Nat} {L : List Tab} {lz lg P : Nat}
theorem MSt.below (h : MSt w0 W kb k a s mb x L lz lg P) (hb : Below W.heap.size W W') : MSt w0 W' kb k a s mb x L lz lg P :=
  ⟨h.bel.trans (hb.mono h.bel.size), h.key.below hb, Blk.below h.ar hb (Blk.lt h.ar), h.ix.below hb, h.li.below hb, h.lowx, h.lowl⟩
theorem MSt.lblk (h : MSt w0 W kb k a s mb x L lz lg P) : (∃ cs, Blk W lz cs RG.LT) ∧ ∃ cs, Blk W lg cs RG.elT := by
  obtain ⟨S, b, h1, h2, _⟩ := h.li.ex
  exact ⟨⟨_, h1⟩, ⟨_, h2⟩⟩
theorem MSt.turn (h : MSt w0 W kb k a s mb x L lz lg P) {P' : Nat} (hn : IxN W W' x L (fun _ => none) P') : ∃ L', MSt w0 W' kb k a s mb x L' lz lg P' := by
  obtain ⟨L', h1, h2⟩ := hn.ex
  have hs := h.bel.size
  obtain ⟨⟨c1, l1⟩, ⟨c2, l2⟩⟩ := h.lblk
  have keep : ∀ {b : Nat} {cs : Array Value} {t : TypeId}, Blk W b cs t → t ≠ IT → t ≠ TT → t ≠ TX.ST → W'.heap[b]? = W.heap[b]? := fun hb e1 e2 e3 => hn.fr.block _ hb.lt (h.ix.notB hb e1 e2 e3)
  refine ⟨L', ⟨hn.fr.os.trans h.bel.os, hn.fr.tape.trans h.bel.tape, hn.fr.output.trans h.bel.output, Nat.le_trans hs hn.fr.size, fun b hb => (hn.fr.block b (by omega) (fun e => by have := h.lowx b e; omega)).trans (h.bel.block b hb)⟩, (keep h.key (by decide) (by decide) (by decide)).trans h.key, (keep h.ar (by decide) (by decide) (by decide)).trans h.ar, h1, h.li.same (keep l1 (by decide) (by decide) (by decide)) (keep l2 (by decide) (by decide) (by decide)), fun b hb => ?_, h.lowl⟩
  rcases h2 b hb with e | e
  · exact h.lowx b e
  · omega
theorem MSt.list (h : MSt w0 W kb k a s mb x L lz lg P) (hn : RG.RgS W W' lz lg RG.LT 1 []) : ∃ lg', MSt w0 W' kb k a s mb x L lz lg' P := by
  obtain ⟨⟨g', h1, h2⟩, hf⟩ := hn
  have hs := h.bel.size
  obtain ⟨⟨c1, l1⟩, ⟨c2, l2⟩⟩ := h.lblk
  have keep : ∀ {b : Nat} {cs : Array Value} {t : TypeId}, Blk W b cs t → t ≠ RG.LT → t ≠ RG.elT → W'.heap[b]? = W.heap[b]? := fun hb e1 e2 => hf.block _ hb.lt (fun e => by
    rcases e with e | e
    · exact blk_ne hb l1 e1 e
    · exact blk_ne hb l2 e2 e)
  refine ⟨g', ⟨hf.os.trans h.bel.os, hf.tape.trans h.bel.tape, hf.output.trans h.bel.output, Nat.le_trans hs hf.size, fun b hb => (hf.block b (by omega) (fun e => by
    have l3 := h.lowl.1
    have l4 := h.lowl.2
    rcases e with e | e <;> omega)).trans (h.bel.block b hb)⟩, (keep h.key (by decide) (by decide)).trans h.key, (keep h.ar (by decide) (by decide)).trans h.ar, h.ix.same (fun b hb => hf.block b (h.ix.lt hb) (fun e => by
    rcases e with e | e
    · rw [e] at hb; exact h.ix.notB l1 (by decide) (by decide) (by decide) hb
    · rw [e] at hb; exact h.ix.notB l2 (by decide) (by decide) (by decide) hb)), h1, h.lowx, h.lowl.1, ?_⟩
  rcases h2 with e | e
  · rw [e]; exact h.lowl.2
  · omega
theorem new_na (h : MSt w0 W kb k a s mb x L lz lg P) : Calls Tryz.prog 21 #[.pointer none, .pointer (some ⟨x, 0, none⟩), .pointer (some ⟨lz, 0, none⟩)] W fun e W' => e = .returned (.pointer none) ∧ MSt w0 W' kb k a s mb x L lz lg P := by
  have HA := hide (isArena_no W)
  have HH := hide h
  clear h
  go_enter Tryz.func21, Tryz.ntmps21
  go_wp2_with (go_at_call 48; (with_reducible refine HA.out.mono ?_); rintro e w1 ⟨rfl, hb⟩; have HB := hide hb; clear hb)
  go_ret
  exact ⟨rfl, HH.out.below HB.out⟩
theorem new_nx (h : MSt w0 W kb k a s mb x L lz lg P) : Calls Tryz.prog 21 #[.pointer (some ⟨a, 0, none⟩), .pointer none, .pointer (some ⟨lz, 0, none⟩)] W fun e W' => e = .returned (.pointer none) ∧ MSt w0 W' kb k a s mb x L lz lg P := by
  have HA := hide (isArena_yes W h.ar)
  have HX := hide (fun w => isIndex_no w)
  have HH := hide h
  clear h
  go_enter Tryz.func21, Tryz.ntmps21
  go_wp2_with (first | (go_at_call 48; (with_reducible refine HA.out.mono ?_); rintro e w1 ⟨rfl, hb⟩; have HB := hide hb; clear hb) | (go_at_call 49; (with_reducible refine (HX.out w1).mono ?_); rintro e w2 ⟨rfl, hb⟩; have HB2 := hide hb; clear hb))
  go_ret
  exact ⟨rfl, (HH.out.below HB.out).below HB2.out⟩
theorem new_nl (h : MSt w0 W kb k a s mb x L lz lg P) (hP : P < 549755813888) : Calls Tryz.prog 21 #[.pointer (some ⟨a, 0, none⟩), .pointer (some ⟨x, 0, none⟩), .pointer none] W fun e W' => e = .returned (.pointer none) ∧ ∃ L', MSt w0 W' kb k a s mb x L' lz lg (P + 1) := by
  have HA := hide (isArena_yes W h.ar)
  have HX : Hid (∀ w, Below W.heap.size W w → Calls Tryz.prog 49 #[.pointer (some ⟨x, 0, none⟩)] w fun e w' => e = .returned (.bool true) ∧ IxN w w' x L (fun _ => none) (P + 1)) := hide (fun w hb => isIndex_yes w (h.ix.below hb) hP)
  have HL := hide (fun w => isList_no w)
  have HH := hide h
  clear h
  go_enter Tryz.func21, Tryz.ntmps21
  go_wp2_with (first | (go_at_call 48; (with_reducible refine HA.out.mono ?_); rintro e w1 ⟨rfl, hb⟩; have HB := hide hb; clear hb) | (go_at_call 49; (with_reducible refine (HX.out w1 HB.out).mono ?_); rintro e w2 ⟨rfl, hn⟩; have HN2 := hide hn; clear hn) | (go_at_call 50; (with_reducible refine (HL.out w2).mono ?_); rintro e w3 ⟨rfl, hb⟩; have HB3 := hide hb; clear hb))
  go_ret
  obtain ⟨L', h2⟩ := (HH.out.below HB.out).turn HN2.out
  exact ⟨rfl, L', h2.below HB3.out⟩
theorem new_yes (h : MSt w0 W kb k a s mb x L lz lg P) (hP : P < 549755813888) : Calls Tryz.prog 21 #[.pointer (some ⟨a, 0, none⟩), .pointer (some ⟨x, 0, none⟩), .pointer (some ⟨lz, 0, none⟩)] W fun e W' => ∃ m L' lg', e = .returned (.pointer (some ⟨m, 0, none⟩)) ∧ MSt w0 W' kb k a s mb x L' lz lg' (P + 1) := by
  have HA := hide (isArena_yes W h.ar)
  have HX : Hid (∀ w, Below W.heap.size W w → Calls Tryz.prog 49 #[.pointer (some ⟨x, 0, none⟩)] w fun e w' => e = .returned (.bool true) ∧ IxN w w' x L (fun _ => none) (P + 1)) := hide (fun w hb => isIndex_yes w (h.ix.below hb) hP)
  have HH := hide h
  clear h
  go_enter Tryz.func21, Tryz.ntmps21
  have HL : Hid (∀ w1 w2, Below W.heap.size W w1 → IxN w1 w2 x L (fun _ => none) (P + 1) → Calls Tryz.prog 50 #[.pointer (some ⟨lz, 0, none⟩)] w2 fun e w' => e = .returned (.bool true) ∧ RG.RgS w2 w' lz lg RG.LT 1 []) := hide (fun w1 w2 hb hn => by
    obtain ⟨L', h2⟩ := (HH.out.below hb).turn hn
    exact isList_yes w2 h2.li)
  go_wp2_with (first | (go_at_call 48; (with_reducible refine HA.out.mono ?_); rintro e w1 ⟨rfl, hb⟩; have HB := hide hb; clear hb) | (go_at_call 49; (with_reducible refine (HX.out w1 HB.out).mono ?_); rintro e w2 ⟨rfl, hn⟩; have HN2 := hide hn; clear hn) | (go_at_call 50; (with_reducible refine (HL.out w1 w2 HB.out HN2.out).mono ?_); rintro e w3 ⟨rfl, hs⟩; have HS3 := hide hs; clear hs))
  go_ret
  obtain ⟨L', h2⟩ := (HH.out.below HB.out).turn HN2.out
  obtain ⟨lg', h3⟩ := h2.list HS3.out
  exact ⟨_, L', lg', rfl, h3.below (TX.below_alloc _ _)⟩
end
end MA
end Go.Proofs.YtjdlffmiokobnaaGreatDoor
