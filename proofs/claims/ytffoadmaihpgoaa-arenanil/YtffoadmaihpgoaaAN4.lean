/- A call of a nil Arena or of a zero one. -/
import Derived.Test.YtffoadmaihpgoaaAN3
namespace Go.Proofs.Ytffoadmaihpgoaa
set_option linter.unusedVariables false
set_option linter.unusedSimpArgs false
open Go.RowKit

/-- An answer's cells. -/
def ansL (e s o : Int) (b : List UInt8) (c1 c2 : Int) (i : List UInt8) : Array Value := #[.int .i64 e, .int .i64 s, .int .i64 o, .string ⟨b.toArray⟩, .int .i64 c1, .int .i64 c2, .string ⟨i.toArray⟩]
def stepL (k s o n : Int) (v : Value) (l : Bool) : Array Value := #[.int .i64 k, .int .i64 s, .int .i64 o, .int .i64 n, v, .bool l]
/-- Between two steps of asked: the step, the result's variable, the answer, the bytes that are lent. -/
structure AskSt (w : World) (z : Nat) (W : World) (st : Array Value) (xs : List UInt8) (ans : Array Value) : Prop where
  zw : z = w.heap.size
  step : Blk W z st 44
  res : Blk W (z + 1) (ansL 0 0 0 [] 0 0 []) 39
  out : Blk W (z + 1 + 1) ans 39
  dat : Blk W (z + 1 + 1 + 1) ((spL xs).map u8c).toArray 5
  bel : Below w.heap.size w W
theorem AskSt.below {w : World} {z : Nat} {W W' : World} {st : Array Value} {xs : List UInt8} {ans : Array Value} (h : AskSt w z W st xs ans) (hb : Below W.heap.size W W') : AskSt w z W' st xs ans :=
  ⟨h.zw, h.step.below hb h.step.lt, h.res.below hb h.res.lt, h.out.below hb h.out.lt, h.dat.below hb h.dat.lt, h.bel.trans (hb.mono h.bel.size)⟩
theorem AskSt.set {w : World} {z : Nat} {W : World} {st : Array Value} {xs : List UInt8} {ans : Array Value} (h : AskSt w z W st xs ans) (i : Nat) (v : Value) : AskSt w z (W.setCell ⟨z + 1 + 1, i, none⟩ v) st xs (ans.setIfInBounds i v) :=
  ⟨h.zw, h.step.setOther _ _ (by show _ ≠ _; simp only []; omega), h.res.setOther _ _ (by show _ ≠ _; simp only []; omega), h.out.set i v, h.dat.setOther _ _ (by show _ ≠ _; simp only []; omega), h.bel.setCell (by have := h.zw; simp; omega) _⟩
theorem AskSt.start (w W : World) (st : Array Value) (xs : List UInt8) (hB : Blk W (w.heap.size + 1 + 1 + 1) ((spL xs).map u8c).toArray 5) (hb : Below (w.heap.size + 1 + 1 + 1) (((w.alloc (.cells st 44)).alloc (.cells (ansL 0 0 0 [] 0 0 []) 39)).alloc (.cells (ansL 0 0 0 [] 0 0 []) 39)) W) : AskSt w w.heap.size W st xs (ansL 0 0 0 [] 0 0 []) := by
  have h1 := (((Blk.made w st 44).alloc (.cells (ansL 0 0 0 [] 0 0 []) 39)).alloc (.cells (ansL 0 0 0 [] 0 0 []) 39))
  have h2 := (Blk.made (w.alloc (.cells st 44)) (ansL 0 0 0 [] 0 0 []) 39).alloc (.cells (ansL 0 0 0 [] 0 0 []) 39)
  have h3 := Blk.made ((w.alloc (.cells st 44)).alloc (.cells (ansL 0 0 0 [] 0 0 []) 39)) (ansL 0 0 0 [] 0 0 []) 39
  simp only [World.size_alloc] at h1 h2 h3
  exact ⟨rfl, h1.below hb (by omega), h2.below hb (by omega), h3.below hb (by omega), hB, (((below_alloc w _).alloc (by simp) _).alloc (by simp; omega) _).trans (hb.mono (by omega))⟩
theorem infoAns : (Try.prog.info? 39).map (·.size) = some 7 := by kernel_rfl
theorem ansL_one (e s o : Int) (b : List UInt8) (c1 c2 : Int) (i : List UInt8) : (ansL e s o b c1 c2 i).all (·.oneCell') = true := by kernel_rfl
theorem results_cell2 {fn : Func} {p q : Tmp} {ty : TypeId} (h : fn.results = #[.cell p ty, .tmp q]) (tmps : Array Value) (w : World) (a : Addr) (ha : tmps.getD p undef = .pointer (some a)) (v : Value) (hl : (loadVar ty a).run Try.prog w = .ok v w) :
    (results fn tmps).run Try.prog w = .ok (.tuple #[v, tmps.getD q undef]) w := by
  simp only [results, h]
  have ha' : tmps[p]?.getD undef = .pointer (some a) := by simpa using ha
  simp [Sem.run_bind, Result.andThen, ha', asAddr, hl]
theorem name_world {P : Program} {c : Code} {Q : Exit → Act → World → Prop} {a : Act} {w : World} (R : World → Prop) (h : R w) (k : ∀ W, R W → c.wp P Q a W) : c.wp P Q a w := k w h
def errK (k : Int) : Int := if (1 ≤ k ∧ k ≤ 8) ∨ k = 11 then 1 else 0
def AskC (w : World) (k : Int) (e : Ending) (w' : World) : Prop := e = .returned (.tuple #[.agg (ansL (errK k) 0 0 [] 0 0 []), .bool true]) ∧ Below w.heap.size w w'
/-- The lent bytes while they are written over. -/
structure OvSt (w : World) (z : Nat) (W : World) (m : Nat) (zs : List UInt8) (ans : Array Value) : Prop where
  zw : z = w.heap.size
  len : zs.length = m
  res : Blk W (z + 1) (ansL 0 0 0 [] 0 0 []) 39
  out : Blk W (z + 1 + 1) ans 39
  dat : Blk W (z + 1 + 1 + 1) (zs.map u8c).toArray 5
  bel : Below w.heap.size w W
theorem AskSt.over {w : World} {z : Nat} {W : World} {st : Array Value} {xs : List UInt8} {ans : Array Value} (h : AskSt w z W st xs ans) : OvSt w z W (xs.length + 70) (spL xs) ans := ⟨h.zw, spL_len xs, h.res, h.out, h.dat, h.bel⟩
theorem OvSt.set {w : World} {z : Nat} {W : World} {m : Nat} {zs : List UInt8} {ans : Array Value} (h : OvSt w z W m zs ans) (i : Nat) (y : UInt8) : OvSt w z (W.setCell ⟨z + 1 + 1 + 1, i, none⟩ (.int .u8 (y.toNat : Int))) m (zs.set i y) ans :=
  ⟨h.zw, by rw [List.length_set]; exact h.len, h.res.setOther _ _ (by show _ ≠ _; simp only []; omega), h.out.setOther _ _ (by show _ ≠ _; simp only []; omega), h.dat.setU i y, h.bel.setCell (by have := h.zw; simp; omega) _⟩
theorem xor_u8 (x : UInt8) : ∃ y : UInt8, bits .xor .u8 (x.toNat : Int) 255 = (y.toNat : Int) := by
  have h : x.toNat < 256 := x.toNat_lt
  have h2 : x.toNat ^^^ 255 < 2 ^ 8 := Nat.xor_lt_two_pow h (by decide)
  refine ⟨UInt8.ofNat (x.toNat ^^^ 255), ?_⟩
  rw [show (255 : Int) = ((255 : Nat) : Int) from rfl, u8_xor_nat x.toNat 255 h (by decide)]
  simp only [UInt8.toNat_ofNat']
  rw [Nat.mod_eq_of_lt h2]
end Go.Proofs.Ytffoadmaihpgoaa
