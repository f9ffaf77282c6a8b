/- The law's moves. -/
import Derived.Test.YtiogblfdchdioaaGDZ
namespace Go.Proofs.Ytiogblfdchdioaa
set_option linter.unusedVariables false
set_option linter.unusedSimpArgs false
namespace RG
open Go.RowKit
set_option maxRecDepth 100000

theorem name_world {P : World → Prop} (F : World → Prop) {w : World} (h : F w) (k : ∀ W, F W → P W) : P w := k w h
/-- A Move as a value. -/
def mvL (k : Int) (nl bt : Bool) (ks : List UInt8) : List Value := [.int .i64 k, .bool nl, .bool bt] ++ ks.map u8c
abbrev mvT : TypeId := 33
structure MvAt (W : World) (b : Nat) (k : Int) (nl bt : Bool) (ks : List UInt8) : Prop where
  blk : Blk W b (mvL k nl bt ks).toArray mvT
theorem MvAt.key {W : World} {b : Nat} {k : Int} {nl bt : Bool} {ks : List UInt8} (h : MvAt W b k nl bt ks) : W.rangeAt b 3 (ks.map u8c) := fun j u hj => by
  have hjl := (List.getElem?_eq_some_iff.1 hj).1
  rw [h.blk.cell, ← Array.getElem?_toList]
  show ([Value.int .i64 k, .bool nl, .bool bt] ++ ks.map u8c)[3 + j]? = _
  rw [List.getElem?_append_right (by simp)]
  rw [show 3 + j - [Value.int .i64 k, .bool nl, .bool bt].length = j by simp]
  exact hj
theorem run_keyAt {op : Oper} {ev : Operand → Value} {x : Operand} {b o : Nat} {ks : List UInt8} {w : World} (hk : ks.length = 32) (ho : op.op = .load 31 x) (hx : ev x = .pointer (some ⟨b, o, none⟩)) (h : w.rangeAt b o (ks.map u8c)) : (execOp ev op).run Try.prog w = .ok (.value (.agg (kA ks))) w := by
  have hl := run_loadVar_mid (P := Try.prog) w b o 31 (ks.map u8c) _ h Try.underlying31 rfl (by rw [List.length_map, hk]; kernel_rfl)
  exact run_load ho hx (by simp only [Instr.loadAt, Instr.sureAddr, Sem.run_bind, Sem.run_pure, Result.andThen_ok]; exact hl)
theorem wpList_keyAt {ops : Array Oper} {rest : List Oper} {op : Oper} {a : Act} {w : World} {Q : Exit → Act → World → Prop} (hg : Region.wanted op (yielded ops a.tmps) = true) (x : Operand) (ho : op.op = .load 31 x) (b o : Nat) (hx : a.eval x = .pointer (some ⟨b, o, none⟩)) (ks : List UInt8) (hk : ks.length = 32) (h : w.rangeAt b o (ks.map u8c))
    (hK : wpList Try.prog ops Q rest (a.put op.dst (.agg (kA ks))) w) : wpList Try.prog ops Q (op :: rest) a w :=
  wpList_valG _ hg (run_keyAt hk ho hx h) hK
theorem run_eqlE {op : Oper} {ev : Operand → Value} {x y : Operand} {u : TypeId} {e : EL} (ho : op.op = .binOp .eql elT x y u) (hx : ev x = elV e) (hy : ev y = elV e) (w : World) : (execOp ev op).run Try.prog w = .ok (.value (.bool true)) w := by
  simp only [execOp, ho, hx, hy, Sem.run_bind, run_eqGuard_agg (P := Try.prog) w .eql elT x y _ _ guardE, Result.andThen_ok, run_eql_struct, equalE e, Sem.run_pure]
theorem wpList_eqlE {ops : Array Oper} {rest : List Oper} {op : Oper} {a : Act} {w : World} {Q : Exit → Act → World → Prop} (hg : Region.wanted op (yielded ops a.tmps) = true) (x y : Operand) (u : TypeId) (ho : op.op = .binOp .eql elT x y u) (e : EL) (hx : a.eval x = elV e) (hy : a.eval y = elV e)
    (hK : wpList Try.prog ops Q rest (a.put op.dst (.bool true)) w) : wpList Try.prog ops Q (op :: rest) a w :=
  wpList_valG _ hg (run_eqlE ho hx hy w) hK
/-- The boxes of moves. -/
structure Bx3 (W0 W : World) (b k7 k8 : Nat) (k : Int) (nl bt : Bool) (ks : List UInt8) (x y : EL) : Prop where
  mv : MvAt W b k nl bt ks
  b7 : BoxEl W k7 x
  b8 : BoxEl W k8 y
  lb : W0.heap.size ≤ b
  l7 : W0.heap.size ≤ k7
  l8 : W0.heap.size ≤ k8
  n7 : b ≠ k7
  n8 : b ≠ k8
  n78 : k7 ≠ k8
section
variable {w W0 W W' : World} {b k7 k8 : Nat} {k : Int} {nl bt : Bool} {ks : List UInt8} {x y : EL}
theorem Bx3.fr (h : Bx3 W0 W b k7 k8 k nl bt ks x y) (f : Frm W W' (fun i => i < W0.heap.size)) : Bx3 W0 W' b k7 k8 k nl bt ks x y :=
  ⟨⟨f.blk h.mv.blk (fun e => by have := h.lb; omega)⟩, f.box h.b7 (fun e => by have := h.l7; omega), f.box h.b8 (fun e => by have := h.l8; omega), h.lb, h.l7, h.l8, h.n7, h.n8, h.n78⟩
theorem Bx3.put7 (h : Bx3 W0 W b k7 k8 k nl bt ks x y) {x' : EL} (hk : BoxEl W' k7 x') (hg : W.grownBy W' (some k7)) : Bx3 W0 W' b k7 k8 k nl bt ks x' y :=
  ⟨⟨Blk.grown h.mv.blk hg (fun e => h.n7 (Option.some.inj e))⟩, hk, Blk.grown h.b8 hg (fun e => h.n78 (Option.some.inj e).symm), h.lb, h.l7, h.l8, h.n7, h.n8, h.n78⟩
theorem Bx3.put8 (h : Bx3 W0 W b k7 k8 k nl bt ks x y) {y' : EL} (hk : BoxEl W' k8 y') (hg : W.grownBy W' (some k8)) : Bx3 W0 W' b k7 k8 k nl bt ks x y' :=
  ⟨⟨Blk.grown h.mv.blk hg (fun e => h.n8 (Option.some.inj e))⟩, Blk.grown h.b7 hg (fun e => h.n78 (Option.some.inj e)), hk, h.lb, h.l7, h.l8, h.n7, h.n8, h.n78⟩
theorem Bx3.c0 (h : Bx3 W0 W b k7 k8 k nl bt ks x y) : W.cell? ⟨b, 0, none⟩ = some (.int .i64 k) := by rw [h.mv.blk.cell]; rfl
theorem Bx3.c1 (h : Bx3 W0 W b k7 k8 k nl bt ks x y) : W.cell? ⟨b, 1, none⟩ = some (.bool nl) := by rw [h.mv.blk.cell]; rfl
theorem Bx3.c2 (h : Bx3 W0 W b k7 k8 k nl bt ks x y) : W.cell? ⟨b, 2, none⟩ = some (.bool bt) := by rw [h.mv.blk.cell]; rfl
end
theorem name_world2 {P : Program} {c : Code} {Q : Exit → Act → World → Prop} {a : Act} {w : World} (R : World → Prop) (h : R w) (k : ∀ W, R W → c.wp P Q a W) : c.wp P Q a w := k w h
/-- Where moves begins. -/
structure Mv0 (w W0 W : World) (z q : Nat) (V : List EL) (k : Int) (nl bt : Bool) (ks : List UInt8) : Prop where
  bx : Bx3 W0 W W0.heap.size (W0.heap.size + 1) (W0.heap.size + 1 + 1) k nl bt ks elZ elZ
  bel : Below W0.heap.size W0 W
  gs : GrS w W0.heap.size W z q V V
  sz : W0.heap.size + 3 ≤ W.heap.size
theorem Mv0.made {w W0 : World} {z q : Nat} {V : List EL} (h : GrS w W0.heap.size W0 z q V V) (k : Int) (nl bt : Bool) (ks : List UInt8) : Mv0 w W0 (((W0.alloc (.cells (mvL k nl bt ks).toArray mvT)).alloc (.cells (elA elZ) elT)).alloc (.cells (elA elZ) elT)) z q V k nl bt ks := by
  have b1 := below_alloc W0 (.cells (mvL k nl bt ks).toArray mvT)
  have b2 := below_alloc (W0.alloc (.cells (mvL k nl bt ks).toArray mvT)) (.cells (elA elZ) elT)
  have b3 := below_alloc ((W0.alloc (.cells (mvL k nl bt ks).toArray mvT)).alloc (.cells (elA elZ) elT)) (.cells (elA elZ) elT)
  have h1 : Blk (W0.alloc (.cells (mvL k nl bt ks).toArray mvT)) W0.heap.size (mvL k nl bt ks).toArray mvT := Blk.made _ _ _
  have h2 : BoxEl ((W0.alloc (.cells (mvL k nl bt ks).toArray mvT)).alloc (.cells (elA elZ) elT)) (W0.heap.size + 1) elZ := by
    have := BoxEl.made (W0.alloc (.cells (mvL k nl bt ks).toArray mvT)) elZ
    simpa using this
  have h3 : BoxEl (((W0.alloc (.cells (mvL k nl bt ks).toArray mvT)).alloc (.cells (elA elZ) elT)).alloc (.cells (elA elZ) elT)) (W0.heap.size + 1 + 1) elZ := by
    have := BoxEl.made ((W0.alloc (.cells (mvL k nl bt ks).toArray mvT)).alloc (.cells (elA elZ) elT)) elZ
    simpa using this
  have hb : Below W0.heap.size W0 (((W0.alloc (.cells (mvL k nl bt ks).toArray mvT)).alloc (.cells (elA elZ) elT)).alloc (.cells (elA elZ) elT)) := b1.trans ((b2.trans (b3.mono b2.size)).mono b1.size)
  exact ⟨⟨⟨(h1.below b2 h1.lt).below b3 (h1.below b2 h1.lt).lt⟩, h2.below b3, h3, Nat.le_refl _, by omega, by omega, by omega, by omega, by omega⟩, hb, h.keep hb, by simp⟩
/-- What moves leaves. -/
def MvC (w : World) (z q : Nat) (n : Nat) (e : Ending) (w' : World) : Prop := e = .returned (.bool true) ∧ ∃ V1, GrS w w'.heap.size w' z q V1 V1 ∧ OkV V1 ∧ V1.length ≤ n
set_option maxHeartbeats 8000000 in
theorem moves_1 {w W0 : World} {z q : Nat} {V : List EL} (h : GrS w W0.heap.size W0 z q V V) (ho : OkV V) (hl : V.length < GM) (bt : Bool) (ks : List UInt8) (hks : ks.length = 32) :
    Calls Try.prog 7 #[.pointer (some ⟨z, 0, none⟩), .pointer (some ⟨q, 0, none⟩), .agg (mvL 1 false bt ks).toArray] W0 (MvC w z q (V.length + 1)) := by
  have HP := hide (pair_push h hl ks hks)
  have HM := hide (Mv0.made h 1 false bt ks)
  have hz0 := zero_el
  have HO : Hid (OkV (V ++ [greyOf ks hks])) := hide (fun x hx => by
    rcases List.mem_append.1 hx with e | e
    · exact ho x e
    · rw [List.mem_singleton.1 e]; exact ⟨by show (-9223372036854775808 : Int) ≤ 0; decide, by show (0 : Int) ≤ 9223372036854775807; decide⟩)
  clear h ho
  go_enter Try.func7, Try.ntmps7
  go_upto_region 3 with fail
  refine name_world2 (fun W => Mv0 w W0 W z q V 1 false bt ks) HM.out ?_
  clear HM
  intro W hM
  have c0 := hM.bx.c0
  have c1 := hM.bx.c1
  have c2 := hM.bx.c2
  have HM := hide hM
  clear hM
  go_upto_region 23 with (first | ((with_reducible refine wpList_keyAt ?_ (.tmp 16) ?_ W0.heap.size 3 ?_ ks hks HM.out.bx.mv.key ?_); rfl; rfl; rfl) | ((with_reducible refine wpList_keyAt ?_ (.tmp 23) ?_ W0.heap.size 3 ?_ ks hks HB2.out.mv.key ?_); rfl; rfl; rfl) | (go_at_call 18; (with_reducible refine (HP.out.p W HM.out.sz HM.out.bel).mono ?_); rintro e W2 ⟨rfl, g2, f2⟩; have HB2 := hide (HM.out.bx.fr f2); have c12 := HB2.out.c1; have G2 := hide g2; have S2 := hide (Nat.le_trans HM.out.sz f2.size); clear g2 f2) | (go_at_call 20; (with_reducible refine (HP.out.r W2 S2.out G2.out).mono ?_); rintro e W3 ⟨rfl, g3, f3⟩; have HB3 := hide (HB2.out.fr f3); have G3 := hide g3; clear g3 f3))
  go_wp2_with (first | ((with_reducible refine wpList_ldB ?_ (.tmp 7) ?_ (W0.heap.size + 1) ?_ elZ HB3.out.b7 ?_); rfl; rfl; rfl) | ((with_reducible refine wpList_ldB ?_ (.tmp 8) ?_ (W0.heap.size + 1 + 1) ?_ elZ HB3.out.b8 ?_); rfl; rfl; rfl) | ((with_reducible refine wpList_eqlE ?_ (.tmp 94) (.tmp 95) elT ?_ elZ ?_ ?_ ?_); rfl; rfl; rfl; rfl))
  go_ret
  exact ⟨rfl, _, G3.out.renew, HO.out, by simp⟩
end RG
end Go.Proofs.Ytiogblfdchdioaa
