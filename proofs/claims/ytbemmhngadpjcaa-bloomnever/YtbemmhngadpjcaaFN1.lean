/- BloomNever: what is opened of a filter's bytes is the filter; three filters beside one another; a row of keys. -/
import Derived.Test.YtbemmhngadpjcaaFN0
import Derived.Test.YtbemmhngadpjcaaFJ9
namespace Go.Proofs.Ytbemmhngadpjcaa
set_option linter.unusedVariables false
set_option linter.unusedSimpArgs false
open Go.RowKit

theorem le_fixB : ∀ n x, x < 256 ^ n → leNat (fixB n x) = x
  | 0, x, h => by
    rw [Nat.pow_zero] at h
    show (0 : Nat) = x
    omega
  | n + 1, x, h => by
    have ih := le_fixB n (x / 256) (by rw [Nat.pow_succ] at h; omega)
    show (UInt8.ofNat x).toNat + 256 * leNat (fixB n (x / 256)) = x
    rw [ih, UInt8.toNat_ofNat']
    omega
theorem flat_chunk : ∀ (ws : List Nat) (k : Nat) (h : k < ws.length), ((ws.flatMap (fixB 8)).drop (8 * k)).take 8 = fixB 8 ws[k]
  | x :: r, 0, _ => by
    rw [List.flatMap_cons, Nat.mul_zero, List.drop_zero, List.take_append_of_le_length (by rw [fixB_len]; omega), List.take_of_length_le (by rw [fixB_len]; omega)]
    rfl
  | x :: r, k + 1, h => by
    rw [List.flatMap_cons, show 8 * (k + 1) = (fixB 8 x).length + 8 * k by rw [fixB_len]; omega, ← List.drop_drop, List.drop_left]
    exact flat_chunk r k (by rw [List.length_cons] at h; omega)
/-- The bytes of a filter are opened to it. -/
theorem open_bytes (h : Nat) (ws : List Nat) (hh : 1 ≤ h ∧ h ≤ 16) (hn : 1 ≤ ws.length ∧ ws.length ≤ 16384) (hok : ∀ x ∈ ws, x < 18446744073709551616) : OkB (bytesF h ws) ∧ hF (bytesF h ws) = h ∧ wsF (bytesF h ws) (cntF (bytesF h ws)) = ws := by
  have e1 : hF (bytesF h ws) = h := by
    unfold hF bytesF
    rw [List.take_append_of_le_length (by rw [fixB_len]; omega), List.take_of_length_le (by rw [fixB_len]; omega), le_fixB 1 h (by omega)]
  have d1 : (bytesF h ws).drop 1 = fixB 2 ws.length ++ ws.flatMap (fixB 8) := by
    unfold bytesF
    rw [show 1 = (fixB 1 h).length by rw [fixB_len]]
    exact List.drop_left
  have e2 : cntF (bytesF h ws) = ws.length := by
    unfold cntF
    rw [d1, List.take_append_of_le_length (by rw [fixB_len]; omega), List.take_of_length_le (by rw [fixB_len]; omega), le_fixB 2 _ (by omega)]
  have d3 : (bytesF h ws).drop 3 = ws.flatMap (fixB 8) := by
    rw [show 3 = 1 + 2 from rfl, ← List.drop_drop, d1, show 2 = (fixB 2 ws.length).length by rw [fixB_len]]
    exact List.drop_left
  refine ⟨?_, e1, ?_⟩
  · unfold OkB
    rw [e1, e2, bytesF_len]
    omega
  · rw [e2]
    refine List.ext_getElem (wsF_len _ _) fun k h1 h2 => ?_
    have hg : ∀ (xs : List UInt8) (n : Nat) (q : k < (wsF xs n).length), (wsF xs n)[k] = leNat ((xs.drop (3 + 8 * k)).take 8) := fun xs n q => by simp [wsF]
    rw [hg, ← List.drop_drop, d3, flat_chunk ws k h2, le_fixB 8 _ (hok _ (List.getElem_mem h2))]
/-- A row of keys that can be read. -/
def KRd (w : World) (v : Value) (ks : List (List UInt8)) : Prop :=
  ∃ ao c, v = .slice ao ks.length c ∧ ks.length ≤ 9223372036854775807 ∧ (∀ kb ∈ ks, kb.length = 32) ∧ (0 < ks.length → ∃ b o, ao = some ⟨b, o, none⟩ ∧ ∀ k (h : k < ks.length), w.rangeAt b (o + k * 32) (ks[k].map u8c))
theorem rangeAt_below {w w' : World} {b o : Nat} {cs : List Value} (h : w.rangeAt b o cs) (hb : Below w.heap.size w w') : w'.rangeAt b o cs := fun j v hj =>
  (hb.cell (World.block_lt_of_cell? w _ (h j v hj))).trans (h j v hj)
theorem FilAt.apart {w : World} {z g h z2 g2 h2 : Nat} {ws ws2 : List Nat} (f : FilAt w z g h ws) (f2 : FilAt w z2 g2 h2 ws2) : z ≠ g2 := fun e => by
  have h1 := f.zb
  have h2 := f2.gb
  unfold Blk at h1 h2
  rw [e, h2] at h1
  have := Obj.cells.inj (Option.some.inj h1)
  exact absurd this.2.1 (by decide)
/-- Three filters of one shape. -/
structure N3 (w0 w : World) (zf gf zg gg zm gm h n : Nat) (us vs ms : List Nat) : Prop where
  f : FilAt w zf gf h us
  g : FilAt w zg gg h vs
  m : FilAt w zm gm h ms
  fg : gf ≠ gg
  fm : gf ≠ gm
  gm' : gg ≠ gm
  lf : w0.heap.size ≤ gf
  lg : w0.heap.size ≤ gg
  lm : w0.heap.size ≤ gm
  nu : us.length = n
  nv : vs.length = n
  nm : ms.length = n
  bel : Below w0.heap.size w0 w
theorem sne {a b : Nat} (h : a ≠ b) : some a ≠ some b := fun e => h (Option.some.inj e)
variable {w0 w w' : World} {zf gf zg gg zm gm h n : Nat} {us vs ms xs : List Nat}
theorem N3.setF (s : N3 w0 w zf gf zg gg zm gm h n us vs ms) (hf : FilAt w' zf gf h xs) (hx : xs.length = n) (hg : w.grownBy w' (some gf)) : N3 w0 w' zf gf zg gg zm gm h n xs vs ms :=
  ⟨hf, s.g.grown hg (sne (s.g.apart s.f)) (sne s.fg.symm), s.m.grown hg (sne (s.m.apart s.f)) (sne s.fm.symm), s.fg, s.fm, s.gm', s.lf, s.lg, s.lm, hx, s.nv, s.nm, s.bel.trans (below_grownBy (B := w0.heap.size) hg s.lf s.bel.size)⟩
theorem N3.setG (s : N3 w0 w zf gf zg gg zm gm h n us vs ms) (hf : FilAt w' zg gg h xs) (hx : xs.length = n) (hg : w.grownBy w' (some gg)) : N3 w0 w' zf gf zg gg zm gm h n us xs ms :=
  ⟨s.f.grown hg (sne (s.f.apart s.g)) (sne s.fg), hf, s.m.grown hg (sne (s.m.apart s.g)) (sne s.gm'.symm), s.fg, s.fm, s.gm', s.lf, s.lg, s.lm, s.nu, hx, s.nm, s.bel.trans (below_grownBy (B := w0.heap.size) hg s.lg s.bel.size)⟩
theorem N3.setM (s : N3 w0 w zf gf zg gg zm gm h n us vs ms) (hf : FilAt w' zm gm h xs) (hx : xs.length = n) (hg : w.grownBy w' (some gm)) : N3 w0 w' zf gf zg gg zm gm h n us vs xs :=
  ⟨s.f.grown hg (sne (s.f.apart s.m)) (sne s.fm), s.g.grown hg (sne (s.g.apart s.m)) (sne s.gm'), hf, s.fg, s.fm, s.gm', s.lf, s.lg, s.lm, s.nu, s.nv, hx, s.bel.trans (below_grownBy (B := w0.heap.size) hg s.lm s.bel.size)⟩
theorem N3.below (s : N3 w0 w zf gf zg gg zm gm h n us vs ms) (hb : Below w.heap.size w w') : N3 w0 w' zf gf zg gg zm gm h n us vs ms :=
  ⟨s.f.below hb, s.g.below hb, s.m.below hb, s.fg, s.fm, s.gm', s.lf, s.lg, s.lm, s.nu, s.nv, s.nm, s.bel.trans (hb.mono s.bel.size)⟩
end Go.Proofs.Ytbemmhngadpjcaa
