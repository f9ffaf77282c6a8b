/- Two tables in turns: what stands between two steps. -/
import Derived.Test.YtnknjcnbbljagaaTRG
import Derived.Test.YtnknjcnbbljagaaTN6
namespace Go.Proofs.Ytnknjcnbbljagaa
set_option linter.unusedVariables false
set_option linter.unusedSimpArgs false
namespace RR
set_option maxRecDepth 100000
open Go.RowKit

/-- Where a table and the document's lie. -/
structure Loc where
  z : Nat
  gy : Nat
  ge : Nat
  bt : Nat
  bm : Nat
  r : Nat
  hy : Nat
  he : Nat
abbrev OneL (W : World) (B : Nat) (a : Loc) (ti ma : Int) (T : TB) (P : Nat) : Prop := One W B a.z a.gy a.ge a.bt a.bm a.r a.hy a.he ti ma T P
structure Dis (a b : Loc) : Prop where
  p : ∀ k, TbB a.z a.gy a.ge k → ¬ TbB b.z b.gy b.ge k
  q : ∀ k, TbB a.r a.hy a.he k → ¬ TbB b.r b.hy b.he k
theorem Dis.symm {a b : Loc} (h : Dis a b) : Dis b a := ⟨fun k h1 h2 => h.p k h2 h1, fun k h1 h2 => h.q k h2 h1⟩
theorem One.other {W W' : World} {B P Q : Nat} {a b : Loc} {ti ma tj mb : Int} {T U : TB} (h : OneL W B b tj mb U Q) (h0 : OneL W B a ti ma T P) (d : Dis a b) (hf : Frm W W' (Two a.z a.gy a.ge a.r a.hy a.he)) : OneL W' B b tj mb U Q := by
  refine ⟨h.tb.same (fun k hk => hf.block k (h.tb.lt hk) ?_), ⟨(hf.block _ h.hs.t.lt ?_).trans h.hs.t, (hf.block _ h.hs.m.lt ?_).trans h.hs.m, h.hs.f⟩, h.rb.same (fun k hk => hf.block k (h.rb.lt hk) ?_), h.inv, h.lo⟩
  · rintro (e | e)
    · exact d.p k e hk
    · exact apart h.tb h0.rb e hk
  · rintro (e | e)
    · exact h0.tb.notB h.hs.t (by decide) (by decide) e
    · exact h0.rb.notB h.hs.t (by decide) (by decide) e
  · rintro (e | e)
    · exact h0.tb.notB h.hs.m (by decide) (by decide) e
    · exact h0.rb.notB h.hs.m (by decide) (by decide) e
  · rintro (e | e)
    · exact apart h0.tb h.rb hk e
    · exact d.q k e hk
/-- Two tables, apart. -/
structure Pair (W : World) (B : Nat) (a b : Loc) (ti ma tj mb : Int) (P : Nat) : Prop where
  sz : B ≤ W.heap.size
  one : ∃ T, OneL W B a ti ma T P
  two : ∃ U, OneL W B b tj mb U P
  dis : Dis a b
theorem Pair.symm {W : World} {B P : Nat} {a b : Loc} {ti ma tj mb : Int} (h : Pair W B a b ti ma tj mb P) : Pair W B b a tj mb ti ma P := ⟨h.sz, h.two, h.one, h.dis.symm⟩
theorem One.mono {W : World} {B P : Nat} {a : Loc} {ti ma : Int} {T : TB} (h : OneL W B a ti ma T P) : OneL W B a ti ma T (P + 1) := ⟨h.tb, h.hs, h.rb, h.inv.mono (Nat.le_succ _), h.lo⟩
theorem Pair.step {W w' : World} {B P : Nat} {a b : Loc} {ti ma tj mb : Int} {e : Ending} (h : Pair W B a b ti ma tj mb P) (hd : DoneC W B a.z a.gy a.ge a.bt a.bm a.r a.hy a.he ti ma P e w') : e = .returned (.bool true) ∧ (∃ a' : Loc, a'.z = a.z ∧ a'.r = a.r ∧ Pair w' B a' b ti ma tj mb (P + 1)) ∧ Below B W w' := by
  obtain ⟨he, gy', ge', hy', he', T', h1, hf, n1, n2⟩ := hd
  obtain ⟨T, h0⟩ := h.one
  obtain ⟨U, h2⟩ := h.two
  refine ⟨he, ⟨⟨a.z, gy', ge', a.bt, a.bm, a.r, hy', he'⟩, rfl, rfl, Nat.le_trans h.sz hf.size, ⟨T', h1⟩, ⟨U, One.mono (One.other h2 h0 h.dis hf)⟩, ⟨fun k hk e2 => ?_, fun k hk e2 => ?_⟩⟩, ⟨hf.os, hf.tape, hf.output, hf.size, fun k hk => hf.block k (Nat.lt_of_lt_of_le hk h.sz) (fun e => ?_)⟩⟩
  · rcases n1 k hk with e | e
    · exact h.dis.p k e e2
    · have := h2.tb.lt e2; omega
  · rcases n2 k hk with e | e
    · exact h.dis.q k e e2
    · have := h2.rb.lt e2; omega
  · have := h0.lo k e; omega
theorem Pair.drewN {W : World} {B P : Nat} {a b : Loc} {ti ma tj mb : Int} (h : Pair W B a b ti ma tj mb P) (q : Nat) : Pair (W.drewN q) B a b ti ma tj mb P := by
  obtain ⟨s, ⟨T, h1⟩, ⟨U, h2⟩, d⟩ := h
  exact ⟨s, ⟨T, One.below h1 (below_dN (Below.refl _ _) q)⟩, ⟨U, One.below h2 (below_dN (Below.refl _ _) q)⟩, d⟩
theorem inv_new (ti ma : Int) : Inv (hsh ti ma) newT 0 := (rel_new ti ma).inv
theorem imT_new : imT newT = newR := rfl
/-- Blocks kept but for two. -/
theorem One.kept {W W' : World} {B x y P : Nat} {a : Loc} {ti ma : Int} {T : TB} {cx cy : Array Value} {tx ty : TypeId} (h : OneL W B a ti ma T P) (hx : x < B) (hy : y < B) (bx : Blk W x cx tx) (b' : Blk W y cy ty) (e1 : tx ≠ 3) (e2 : ty ≠ 3) (hk : ∀ k, k < W.heap.size → k ≠ x → k ≠ y → W'.heap[k]? = W.heap[k]?) : OneL W' B a ti ma T P := by
  have ni : ∀ b u, Blk W b #[u] 3 → b ≠ x ∧ b ≠ y := by
    intro b u hb
    constructor
    · rintro rfl
      unfold Blk at hb bx
      rw [hb] at bx
      cases bx
      exact e1 rfl
    · rintro rfl
      unfold Blk at hb b'
      rw [hb] at b'
      cases b'
      exact e2 rfl
  have two : ∀ k, Two a.z a.gy a.ge a.r a.hy a.he k → W'.heap[k]? = W.heap[k]? := fun k hk' => by
    have := h.lo k hk'
    exact hk k (One.lt h hk') (by omega) (by omega)
  exact ⟨h.tb.same (fun k e => two k (.inl e)), ⟨(hk _ h.hs.t.lt (ni _ _ h.hs.t).1 (ni _ _ h.hs.t).2).trans h.hs.t, (hk _ h.hs.m.lt (ni _ _ h.hs.m).1 (ni _ _ h.hs.m).2).trans h.hs.m, h.hs.f⟩, h.rb.same (fun k e => two k (.inr e)), h.inv, h.lo⟩
end RR
end Go.Proofs.Ytnknjcnbbljagaa
