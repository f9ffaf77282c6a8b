/- Two tables in turns: making them. -/
import Derived.Test.YtnknjcnbbljagaaTRH
namespace Go.Proofs.Ytnknjcnbbljagaa
set_option linter.unusedVariables false
set_option linter.unusedSimpArgs false
namespace RR
set_option maxRecDepth 100000
open Go.RowKit

def playL (t0 t1 m0 m1 : Int) (ap : Option Addr) (n c : Nat) : Array Value := #[.int .i64 t0, .int .i64 t1, .int .i64 m0, .int .i64 m1, .slice ap n c]
def ptr (b : Nat) : Value := .pointer (some ⟨b, 0, none⟩)
abbrev tyP : TypeId := 27
abbrev tyR : TypeId := 29
/-- While the tables are made: none, one, both. -/
structure Mk (w : World) (N : Nat) (t0 t1 m0 m1 : Int) (ap : Option Addr) (n c j : Nat) (W : World) : Prop where
  bel : Below N w W
  sz : N + 3 ≤ W.heap.size
  pl : Blk W N (playL t0 t1 m0 m1 ap n c) 25
  st : (j = 0 ∧ Blk W (N + 1) #[.pointer none, .pointer none] tyP ∧ Blk W (N + 1 + 1) #[.pointer none, .pointer none] tyR) ∨ (j = 1 ∧ ∃ a T, OneL W (N + 3) a t0 m0 T 0 ∧ Blk W (N + 1) #[ptr a.z, .pointer none] tyP ∧ Blk W (N + 1 + 1) #[ptr a.r, .pointer none] tyR) ∨ (j = 2 ∧ ∃ a b, Pair W (N + 3) a b t0 m0 t1 m1 0 ∧ Blk W (N + 1) #[ptr a.z, ptr b.z] tyP ∧ Blk W (N + 1 + 1) #[ptr a.r, ptr b.r] tyR)
/-- What making one more leaves. -/
structure Made (wr W : World) (N i : Nat) (ti ma : Int) (cp cr : Array Value) (a : Loc) : Prop where
  one : OneL W (N + 3) a ti ma newT 0
  bp : Blk W (N + 1) (cp.setIfInBounds i (ptr a.z)) tyP
  br : Blk W (N + 1 + 1) (cr.setIfInBounds i (ptr a.r)) tyR
  fr : Frm wr W (fun k => k = N + 1 ∨ k = N + 1 + 1)
  nw : ∀ k, Two a.z a.gy a.ge a.r a.hy a.he k → wr.heap.size ≤ k
theorem made {wr w4 w5 : World} {N z g r h i : Nat} {ti ma : Int} {cp cr : Array Value} (hN : N + 3 ≤ wr.heap.size) (bp : Blk wr (N + 1) cp tyP) (br : Blk wr (N + 1 + 1) cr tyR)
    (ht : TbAt w4 z g g (hvF FP wr.heap.size (wr.heap.size + 1)) newT) (hz : wr.heap.size + 2 ≤ z) (hg : wr.heap.size + 2 ≤ g) (hb : Below (wr.heap.size + 2) ((wr.alloc (.cells #[.int .i64 ti] 3)).alloc (.cells #[.int .i64 ma] 3)) w4)
    (hr : TbR w5 r h h ti ma newR) (hr1 : w4.heap.size ≤ r) (hr2 : w4.heap.size ≤ h) (hb5 : Below w4.heap.size (w4.setCell ⟨N + 1, i, none⟩ (ptr z)) w5) :
    Made wr (w5.setCell ⟨N + 1 + 1, i, none⟩ (ptr r)) N i ti ma cp cr ⟨z, g, g, wr.heap.size, wr.heap.size + 1, r, h, h⟩ := by
  obtain ⟨Wa, hWa⟩ : ∃ X, X = (wr.alloc (.cells #[.int .i64 ti] 3)).alloc (.cells #[.int .i64 ma] 3) := ⟨_, rfl⟩
  rw [← hWa] at hb
  have hwa : Wa.heap.size = wr.heap.size + 2 := by rw [hWa]; simp
  have hba : Below wr.heap.size wr Wa := by rw [hWa]; exact (below_alloc wr _).alloc (by simp) _
  have h4 : wr.heap.size + 2 ≤ w4.heap.size := by have := hb.size; omega
  have hs4 : (w4.setCell ⟨N + 1, i, none⟩ (ptr z)).heap.size = w4.heap.size := by simp
  have k1 : ∀ k, k < w4.heap.size → k ≠ N + 1 → k ≠ N + 1 + 1 → (w5.setCell ⟨N + 1 + 1, i, none⟩ (ptr r)).heap[k]? = w4.heap[k]? := fun k h1 h2 h3 => by
    rw [heap_setCell_other _ _ _ _ h3, hb5.block k h1, heap_setCell_other _ _ _ _ h2]
  have zg : ∀ k, TbB z g g k → wr.heap.size + 2 ≤ k := by rintro k (rfl | rfl | rfl) <;> assumption
  have rg : ∀ k, TbB r h h k → w4.heap.size ≤ k := by rintro k (rfl | rfl | rfl) <;> assumption
  have a1 : Blk Wa wr.heap.size #[.int .i64 ti] 3 := by rw [hWa]; exact (Blk.made wr _ _).alloc _
  have a2 : Blk Wa (wr.heap.size + 1) #[.int .i64 ma] 3 := by
    rw [hWa]
    have h := Blk.made (wr.alloc (.cells #[.int .i64 ti] 3)) #[.int .i64 ma] 3
    rw [World.size_alloc] at h
    exact h
  have b1 : Blk w4 wr.heap.size #[.int .i64 ti] 3 := (hb.block _ (by omega)).trans a1
  have b2 : Blk w4 (wr.heap.size + 1) #[.int .i64 ma] 3 := (hb.block _ (by omega)).trans a2
  have p4 : Blk w4 (N + 1) cp tyP := (hb.block _ (by omega)).trans ((hba.block _ (by omega)).trans bp)
  have r4 : Blk w4 (N + 1 + 1) cr tyR := (hb.block _ (by omega)).trans ((hba.block _ (by omega)).trans br)
  have p5 : Blk w5 (N + 1) (cp.setIfInBounds i (ptr z)) tyP := (hb5.block _ (by omega)).trans (p4.set i (ptr z))
  have r5 : Blk w5 (N + 1 + 1) cr tyR := (hb5.block _ (by omega)).trans (r4.setOther _ _ (by simp))
  refine ⟨⟨ht.same (fun k hk => ?_), ⟨(k1 wr.heap.size (by omega) (by omega) (by omega)).trans b1, (k1 (wr.heap.size + 1) (by omega) (by omega) (by omega)).trans b2, .inr rfl⟩, ?_, inv_new ti ma, ?_⟩, p5.setOther _ _ (by simp), r5.set i (ptr r), ?_, ?_⟩
  · have := zg k hk
    exact k1 k (ht.lt hk) (by omega) (by omega)
  · rw [imT_new]
    refine hr.same (fun k hk => ?_)
    have hk' := rg k hk
    have hne : k ≠ N + 1 + 1 := by omega
    exact heap_setCell_other _ _ _ _ hne
  · rintro k (e | e)
    · have := zg k e; omega
    · have := rg k e; omega
  · have f1 : Frm wr Wa (fun k => k = N + 1 ∨ k = N + 1 + 1) := Frm.of_below hba
    have f2 : Frm Wa w4 (fun k => k = N + 1 ∨ k = N + 1 + 1) := ⟨hb.os, hb.tape, hb.output, hb.size, fun k hk _ => hb.block k (by omega)⟩
    have f3 : Frm wr (w4.setCell ⟨N + 1, i, none⟩ (ptr z)) (fun k => k = N + 1 ∨ k = N + 1 + 1) := (f1.trans f2 (fun _ _ e => e)).put _ _ _ (.inl rfl)
    have f4 : Frm (w4.setCell ⟨N + 1, i, none⟩ (ptr z)) w5 (fun k => k = N + 1 ∨ k = N + 1 + 1) := ⟨hb5.os, hb5.tape, hb5.output, hb5.size, fun k hk _ => hb5.block k (by rw [hs4] at hk; exact hk)⟩
    exact (f3.trans f4 (fun _ _ e => e)).put _ _ _ (.inr rfl)
  · rintro k (e | e)
    · have := zg k e; omega
    · have := rg k e; omega
section
variable {w wr W : World} {N : Nat} {t0 t1 m0 m1 : Int} {ap : Option Addr} {n c : Nat} {a : Loc}
theorem Made.bel {i : Nat} {ti ma : Int} {cp cr : Array Value} (h : Made wr W N i ti ma cp cr a) (hb : Below N w wr) (hN : N + 3 ≤ wr.heap.size) : Below N w W :=
  hb.trans ⟨h.fr.os, h.fr.tape, h.fr.output, h.fr.size, fun k hk => h.fr.block k (by omega) (by omega)⟩
theorem Mk.first (h : Mk w N t0 t1 m0 m1 ap n c 0 wr) (hm : Made wr W N 0 t0 m0 #[.pointer none, .pointer none] #[.pointer none, .pointer none] a) : Mk w N t0 t1 m0 m1 ap n c 1 W :=
  ⟨hm.bel h.bel h.sz, Nat.le_trans h.sz hm.fr.size, (hm.fr.block N (by have := h.sz; omega) (by omega)).trans h.pl, .inr (.inl ⟨rfl, a, newT, hm.one, hm.bp, hm.br⟩)⟩
theorem Mk.second {b : Loc} {T : TB} (h : Mk w N t0 t1 m0 m1 ap n c 1 wr) (h1 : OneL wr (N + 3) a t0 m0 T 0) (bp : Blk wr (N + 1) #[ptr a.z, .pointer none] tyP) (br : Blk wr (N + 1 + 1) #[ptr a.r, .pointer none] tyR) (hm : Made wr W N 1 t1 m1 #[ptr a.z, .pointer none] #[ptr a.r, .pointer none] b) : Mk w N t0 t1 m0 m1 ap n c 2 W := by
  have hk : OneL W (N + 3) a t0 m0 T 0 := One.kept h1 (x := N + 1) (y := N + 1 + 1) (by omega) (by omega) bp br (by decide) (by decide) (fun k hk e1 e2 => hm.fr.block k hk (by omega))
  refine ⟨hm.bel h.bel h.sz, Nat.le_trans h.sz hm.fr.size, (hm.fr.block N (by have := h.sz; omega) (by omega)).trans h.pl, .inr (.inr ⟨rfl, a, b, ⟨Nat.le_trans h.sz hm.fr.size, ⟨T, hk⟩, ⟨newT, hm.one⟩, ⟨fun k e1 e2 => ?_, fun k e1 e2 => ?_⟩⟩, hm.bp, hm.br⟩)⟩
  · have := h1.tb.lt e1
    have := hm.nw k (.inl e2)
    omega
  · have := h1.rb.lt e1
    have := hm.nw k (.inr e2)
    omega
end
/-- Between two steps. -/
structure LpP (wp : World) (B z0 r0 z1 r1 : Nat) (t0 m0 t1 m1 : Int) (P : Nat) (W : World) : Prop where
  pr : ∃ a b : Loc, a.z = z0 ∧ a.r = r0 ∧ b.z = z1 ∧ b.r = r1 ∧ Pair W B a b t0 m0 t1 m1 P
  bel : Below B wp W
section
variable {wp W : World} {B z0 r0 z1 r1 P : Nat} {t0 m0 t1 m1 : Int}
theorem LpP.drewN (h : LpP wp B z0 r0 z1 r1 t0 m0 t1 m1 P W) (q : Nat) : LpP wp B z0 r0 z1 r1 t0 m0 t1 m1 P (W.drewN q) := by
  obtain ⟨⟨a, b, h1, h2, h3, h4, h5⟩, hb⟩ := h
  exact ⟨⟨a, b, h1, h2, h3, h4, h5.drewN q⟩, below_dN hb q⟩
theorem LpP.step0 (h : LpP wp B z0 r0 z1 r1 t0 m0 t1 m1 P W) (hP : P + 1 ≤ 4398046511104) (d : Int) (o : Bool) (k v : Int) : Calls Try.prog 12 #[.pointer (some ⟨z0, 0, none⟩), .pointer (some ⟨r0, 0, none⟩), .agg #[.int .i64 d, .bool o, .int .i64 k, .int .i64 v]] W fun e w' => e = .returned (.bool true) ∧ LpP wp B z0 r0 z1 r1 t0 m0 t1 m1 (P + 1) w' := by
  obtain ⟨⟨a, b, rfl, rfl, h3, h4, h5⟩, hb⟩ := h
  obtain ⟨T, h0⟩ := h5.one
  refine (done_any W h0 h5.sz hP d o k v).mono (fun e w' hd => ?_)
  obtain ⟨he, ⟨a', e1, e2, h6⟩, hb'⟩ := h5.step hd
  exact ⟨he, ⟨⟨a', b, e1, e2, h3, h4, h6⟩, hb.trans hb'⟩⟩
theorem LpP.step1 (h : LpP wp B z0 r0 z1 r1 t0 m0 t1 m1 P W) (hP : P + 1 ≤ 4398046511104) (d : Int) (o : Bool) (k v : Int) : Calls Try.prog 12 #[.pointer (some ⟨z1, 0, none⟩), .pointer (some ⟨r1, 0, none⟩), .agg #[.int .i64 d, .bool o, .int .i64 k, .int .i64 v]] W fun e w' => e = .returned (.bool true) ∧ LpP wp B z0 r0 z1 r1 t0 m0 t1 m1 (P + 1) w' := by
  obtain ⟨⟨a, b, h1, h2, rfl, rfl, h5⟩, hb⟩ := h
  obtain ⟨T, h0⟩ := h5.symm.one
  refine (done_any W h0 h5.sz hP d o k v).mono (fun e w' hd => ?_)
  obtain ⟨he, ⟨a', e1, e2, h6⟩, hb'⟩ := h5.symm.step hd
  exact ⟨he, ⟨⟨a, a', h1, h2, e1, e2, h6.symm⟩, hb.trans hb'⟩⟩
end
end RR
end Go.Proofs.Ytnknjcnbbljagaa
