/- PinsPlays: two pairs, one beside the other; the law's drawn regions. -/
import Derived.Test.YtagnglkkmdeicaaPA17
namespace Go.Proofs.Ytagnglkkmdeicaa
set_option linter.unusedVariables false
set_option linter.unusedSimpArgs false
open Go.RowKit Go.Shelf
set_option maxRecDepth 100000

theorem blk_chg {W W' : World} {T : Nat → Prop} {b : Nat} {cs : Array Value} {t : TypeId} (h : Blk W b cs t) (hc : Chg T W W') (hb : ¬ T b) : Blk W' b cs t := (hc.block b h.lt hb).trans h
theorem noB_rf {w : World} {zr : Nat} {D : List RfV} (h : RfAt w zr D) : NoB w zr := fun o v hv b e => by
  rw [h.blk.cell] at hv
  have hm : v ∈ rfL D := by
    have := Array.mem_of_getElem? hv
    simpa using this
  unfold rfL at hm
  rw [e] at hm
  rcases List.mem_append.1 hm with hm | hm
  · obtain ⟨q, _, hq⟩ := List.mem_map.1 hm; cases hq
  · rcases List.mem_append.1 hm with hm | hm
    · obtain ⟨q, _, hq⟩ := List.mem_map.1 hm; cases hq
    · obtain ⟨q, _, hq⟩ := List.mem_map.1 hm; cases hq
theorem One.noB {W : World} {zp zr n : Nat} {os : List (Option SesV)} {D : List RfV} (h : One W zp zr os D n) {i : Nat} (hi : Ft zp zr os i) : NoB W i := by
  rcases hi with rfl | rfl | ⟨k, v, e, rfl | rfl⟩
  · exact noB_pins h.p
  · exact noB_rf h.r
  · exact noB_ses (h.p.ses k v e)
  · exact noB_map (h.p.ses k v e)
/-- A block that only Ft speaks of is of one of four kinds. -/
theorem One.kind {W : World} {zp zr n : Nat} {os : List (Option SesV)} {D : List RfV} (h : One W zp zr os D n) {i : Nat} (hi : Ft zp zr os i) {cs : Array Value} {t : TypeId} (hb : Blk W i cs t) : t = 53 ∨ t = 58 ∨ t = 66 := by
  have same : ∀ {cs' : Array Value} {t' : TypeId}, Blk W i cs' t' → t = t' := fun q => by
    unfold Blk at hb q
    rw [hb] at q
    injection q with q
    injection q with _ q2 _
  rcases hi with rfl | rfl | ⟨k, v, e, rfl | rfl⟩
  · exact .inl (same h.p.blk)
  · exact .inr (.inl (same h.r.blk))
  · exact .inr (.inr (same (h.p.ses k v e).blk))
  · obtain ⟨D, ⟨es, clock, hq, _⟩, _⟩ := (h.p.ses k v e).set.set
    unfold Blk at hb
    rw [hq] at hb
    cases hb
theorem krow_chg {W W' : World} {T : Nat → Prop} {ao : Option Addr} {L : List (List UInt8)} (h : KRow W ao L) (hc : Chg T W W') (hz : ∀ i, T i → NoB W i) : KRow W' ao L := by
  refine ⟨fun i hi => ?_, h.len⟩
  obtain ⟨g, o, e, hr⟩ := h.at' i hi
  refine ⟨g, o, e, fun j v hj => ?_⟩
  have h1 := hr j v hj
  rw [← h1]
  unfold World.cell?
  simp only
  rw [hc.block g (World.block_lt_of_cell? W _ h1) (fun ht => ?_)]
  obtain ⟨b, _, hb⟩ := List.mem_map.1 (List.mem_of_getElem? hj)
  exact hz g ht _ _ h1 b hb.symm
theorem kset_chg {W W' : World} {T : Nat → Prop} {b : Nat} {S : List (List UInt8)} (h : KSet W b S) (hc : Chg T W W') (hb : ¬ T b) : KSet W' b S := by
  obtain ⟨D, ⟨es, clock, hq, hr⟩, h2⟩ := h
  exact ⟨D, ⟨es, clock, (hc.block b (Array.getElem?_eq_some_iff.1 hq).1 hb).trans hq, hr⟩, h2⟩
/-- What one pair's step leaves of the other pair. -/
theorem One.chg {W W' : World} {zp zr n zp' zr' m : Nat} {os os' : List (Option SesV)} {D D' : List RfV} (h : One W zp zr os D n) (g : One W zp' zr' os' D' m) (hc : Chg (Ft zp' zr' os') W W') (hd : ∀ i, Ft zp zr os i → ¬ Ft zp' zr' os' i) : One W' zp zr os D n := by
  refine ⟨⟨blk_chg h.p.blk hc (hd _ (.inl rfl)), h.p.len, fun s v e => ⟨blk_chg (h.p.ses s v e).blk hc (hd _ (.inr (.inr ⟨s, v, e, .inl rfl⟩))), ⟨blk_chg (h.p.ses s v e).set.blk hc (fun q => ?_), kset_chg (h.p.ses s v e).set.set hc (hd _ (.inr (.inr ⟨s, v, e, .inr rfl⟩)))⟩⟩, h.p.apart⟩, ⟨blk_chg h.r.blk hc (hd _ (.inr (.inl rfl))), h.r.len, fun s d e => krow_chg (h.r.row s d e) hc (fun i q => g.noB q), h.r.far⟩, h.rel⟩
  rcases g.kind q (h.p.ses s v e).set.blk with q | q | q <;> exact absurd q (by decide)
/-- The two pairs and the arrays that lead to them. -/
structure Pl (N za zb zp zr zq zs n : Nat) (W : World) : Prop where
  ba : Blk W za #[.pointer (some ⟨zp, 0, none⟩), .pointer (some ⟨zq, 0, none⟩)] 24
  bb : Blk W zb #[.pointer (some ⟨zr, 0, none⟩), .pointer (some ⟨zs, 0, none⟩)] 26
  two : ∃ os D os' D', One W zp zr os D n ∧ One W zq zs os' D' n ∧ (∀ i, Ft zp zr os i → N ≤ i ∧ ¬ Ft zq zs os' i) ∧ (∀ i, Ft zq zs os' i → N ≤ i)
theorem Pl.below {N za zb zp zr zq zs n : Nat} {W W' : World} (h : Pl N za zb zp zr zq zs n W) (hb : Below W.heap.size W W') : Pl N za zb zp zr zq zs n W' := by
  obtain ⟨os, D, os', D', h1, h2, h3, h4⟩ := h.two
  exact ⟨h.ba.below hb h.ba.lt, h.bb.below hb h.bb.lt, os, D, os', D', h1.below hb, h2.below hb, h3, h4⟩
theorem Pl.size {N za zb zp zr zq zs n : Nat} {W : World} (h : Pl N za zb zp zr zq zs n W) : N ≤ W.heap.size := by
  obtain ⟨os, D, os', D', h1, h2, h3, h4⟩ := h.two
  have := (h3 zp (.inl rfl)).1
  have := h1.p.blk.lt
  omega
def PlC (N za zb zp zr zq zs n : Nat) (w : World) (e : Ending) (w' : World) : Prop := e = .returned (.bool true) ∧ Pl N za zb zp zr zq zs n w' ∧ Below N w w' ∧ ∀ b cs, Blk w b cs 30 → Blk w' b cs 30
theorem Pl.step0 (SP : SpoH) {N za zb zp zr zq zs n : Nat} {W : World} (h : Pl N za zb zp zr zq zs n W) (hn : n ≤ 4398046510976) (dd s : Int) (ot al : Bool) (x : List UInt8) (hx : x.length = 32) : Calls Try.prog 7 #[.pointer (some ⟨zp, 0, none⟩), .pointer (some ⟨zr, 0, none⟩), .agg (stL dd ot s x al).toArray] W (PlC N za zb zp zr zq zs (n + 1) W) := by
  obtain ⟨os, D, os', D', h1, h2, h3, h4⟩ := h.two
  refine (done_any SP h1 hn dd s ot al x hx).mono ?_
  rintro e w' ⟨he, hc, os2, D2, g1, g2⟩
  refine ⟨he, ⟨blk_chg h.ba hc (fun q => ?_), blk_chg h.bb hc (fun q => ?_), os2, D2, os', D', g1, ?_, fun i q => ?_, h4⟩, hc.below h.size (fun i q => (h3 i q).1), fun b cs hb => blk_chg hb hc (fun q => ?_)⟩
  · rcases h1.kind q h.ba with q | q | q <;> exact absurd q (by decide)
  · rcases h1.kind q h.bb with q | q | q <;> exact absurd q (by decide)
  · have := h2.chg h1 hc (fun i q t => (h3 i t).2 q)
    exact ⟨this.p, this.r, this.rel.more (by omega)⟩
  · rcases g2 i q with t | t
    · exact h3 i t
    · exact ⟨Nat.le_trans h.size t, fun q2 => by have := h2.ftlt q2; omega⟩
  · rcases h1.kind q hb with q | q | q <;> exact absurd q (by decide)
theorem Pl.step1 (SP : SpoH) {N za zb zp zr zq zs n : Nat} {W : World} (h : Pl N za zb zp zr zq zs n W) (hn : n ≤ 4398046510976) (dd s : Int) (ot al : Bool) (x : List UInt8) (hx : x.length = 32) : Calls Try.prog 7 #[.pointer (some ⟨zq, 0, none⟩), .pointer (some ⟨zs, 0, none⟩), .agg (stL dd ot s x al).toArray] W (PlC N za zb zp zr zq zs (n + 1) W) := by
  obtain ⟨os, D, os', D', h1, h2, h3, h4⟩ := h.two
  refine (done_any SP h2 hn dd s ot al x hx).mono ?_
  rintro e w' ⟨he, hc, os2, D2, g1, g2⟩
  refine ⟨he, ⟨blk_chg h.ba hc (fun q => ?_), blk_chg h.bb hc (fun q => ?_), os, D, os2, D2, ?_, g1, fun i q => ⟨(h3 i q).1, fun q2 => ?_⟩, fun i q => ?_⟩, hc.below h.size (fun i q => h4 i q), fun b cs hb => blk_chg hb hc (fun q => ?_)⟩
  · rcases h2.kind q h.ba with q | q | q <;> exact absurd q (by decide)
  · rcases h2.kind q h.bb with q | q | q <;> exact absurd q (by decide)
  · have := h1.chg h2 hc (fun i q t => (h3 i q).2 t)
    exact ⟨this.p, this.r, this.rel.more (by omega)⟩
  · rcases g2 i q2 with t | t
    · exact (h3 i q).2 t
    · have := h1.ftlt q; omega
  · rcases g2 i q with t | t
    · exact h4 i t
    · exact Nat.le_trans h.size t
  · rcases h2.kind q hb with q | q | q <;> exact absurd q (by decide)
/-- The program's and the document's of a place. -/
def pAt (zp zq : Nat) (a : Nat) : Nat := if a = 0 then zp else zq
theorem Pl.step (SP : SpoH) {N za zb zp zr zq zs n a : Nat} {W : World} (ha : a < 2) (h : Pl N za zb zp zr zq zs n W) (hn : n ≤ 4398046510976) (dd s : Int) (ot al : Bool) (x : List UInt8) (hx : x.length = 32) : Calls Try.prog 7 #[.pointer (some ⟨pAt zp zq a, 0, none⟩), .pointer (some ⟨pAt zr zs a, 0, none⟩), .agg (stL dd ot s x al).toArray] W (PlC N za zb zp zr zq zs (n + 1) W) := by
  rcases (show a = 0 ∨ a = 1 by omega) with rfl | rfl
  · exact h.step0 SP hn dd s ot al x hx
  · exact h.step1 SP hn dd s ot al x hx
theorem Pl.ca {N za zb zp zr zq zs n a : Nat} {W : World} (ha : a < 2) (h : Pl N za zb zp zr zq zs n W) : W.cell? ⟨za, a, none⟩ = some (.pointer (some ⟨pAt zp zq a, 0, none⟩)) ∧ W.cell? ⟨zb, a, none⟩ = some (.pointer (some ⟨pAt zr zs a, 0, none⟩)) := by
  rcases (show a = 0 ∨ a = 1 by omega) with rfl | rfl
  · exact ⟨by rw [h.ba.cell]; rfl, by rw [h.bb.cell]; rfl⟩
  · exact ⟨by rw [h.ba.cell]; rfl, by rw [h.bb.cell]; rfl⟩
theorem run_ix2p {op : Oper} {ev : Operand → Value} {x y : Operand} {b i : Nat} (ho : op.op = .indexAddr 24 x y) (hx : ev x = .pointer (some ⟨b, 0, none⟩)) (hy : ev y = .int .i64 (i : Int)) (hi : i < 2) (w : World) : (execOp ev op).run Try.prog w = .ok (.value (.pointer (some ⟨b, i, none⟩))) w := by
  simp only [execOp, ho, hx, hy]
  rcases (show i = 0 ∨ i = 1 by omega) with rfl | rfl
  · kernel_rfl
  · kernel_rfl
theorem run_ix2r {op : Oper} {ev : Operand → Value} {x y : Operand} {b i : Nat} (ho : op.op = .indexAddr 26 x y) (hx : ev x = .pointer (some ⟨b, 0, none⟩)) (hy : ev y = .int .i64 (i : Int)) (hi : i < 2) (w : World) : (execOp ev op).run Try.prog w = .ok (.value (.pointer (some ⟨b, i, none⟩))) w := by
  simp only [execOp, ho, hx, hy]
  rcases (show i = 0 ∨ i = 1 by omega) with rfl | rfl
  · kernel_rfl
  · kernel_rfl
theorem load_pp {w : World} {b o : Nat} {v : Value} (h : w.cell? ⟨b, o, none⟩ = some v) : (Instr.loadAt 23 (.pointer (some ⟨b, o, none⟩))).run Try.prog w = .ok v w := by
  have hu := Try.underlying23
  simp [go_sem, h, hu]
theorem load_pr {w : World} {b o : Nat} {v : Value} (h : w.cell? ⟨b, o, none⟩ = some v) : (Instr.loadAt 25 (.pointer (some ⟨b, o, none⟩))).run Try.prog w = .ok v w := by
  have hu := Try.underlying25
  simp [go_sem, h, hu]
theorem run_idxSt {op : Oper} {ev : Operand → Value} {x y : Operand} {g o n c j : Nat} (ho : op.op = .indexAddr 22 x y) (hx : ev x = .slice (some ⟨g, o, none⟩) n c) (hy : ev y = .int .i64 (j : Int)) (h : j < n) (w : World) : (execOp ev op).run Try.prog w = .ok (.value (.pointer (some ⟨g, o + j * 36, none⟩))) w := by
  have hu := Try.underlying22
  have hs : (sizeOf 32).run Try.prog w = .ok 36 w := by kernel_rfl
  have h1 : (j : Int) < (n : Int) := by omega
  simp only [execOp, ho, hx, hy]
  simp [go_sem, hu, h1, hs]
theorem loadAt_st {w : World} {z o : Nat} {cs : List Value} (hl : cs.length = 36) (hc : w.rangeAt z o cs) : (Instr.loadAt 32 (.pointer (some ⟨z, o, none⟩))).run Try.prog w = .ok (.agg cs.toArray) w := by
  have := run_loadVar_mid (P := Try.prog) w z o 32 cs _ hc Try.underlying32 rfl (by rw [hl]; exact infoSt)
  simp only [Instr.loadAt, Instr.sureAddr, Sem.run_bind, Sem.run_pure, Result.andThen_ok]
  exact this
theorem run_notT {op : Oper} {ev : Operand → Value} {x : Operand} {t : TypeId} (ho : op.op = .unOp .not t x) (hx : ev x = .bool true) (w : World) : (execOp ev op).run Try.prog w = .ok (.value (.bool false)) w := by
  simp only [execOp, ho, hx]; kernel_rfl
def K5 : List UInt8 := 0 :: 0 :: 0 :: 0 :: 0 :: 5 :: List.replicate 26 0
def zK5 : List UInt8 := List.replicate 32 0
def pl_0 (s : String) : Oper := { dst := some 35, op := Op.move (Operand.tmp 7), type := 3, pos := s, after := #[], guard := none }
def pl_1 (s : String) : Oper := { dst := some 36, op := Op.indexAddr 24 (Operand.tmp 3) (Operand.tmp 35), type := 0, pos := s, after := #[{ on := 0, ground := Ground.data }], guard := none }
def pl_2 (s : String) : Oper := { dst := some 37, op := Op.load 23 (Operand.tmp 36), type := 23, pos := s, after := #[{ on := 1, ground := Ground.data }], guard := none }
def pl_3 (s : String) : Oper := { dst := some 38, op := Op.move (Operand.tmp 7), type := 3, pos := s, after := #[], guard := none }
def pl_4 (s : String) : Oper := { dst := some 39, op := Op.indexAddr 26 (Operand.tmp 4) (Operand.tmp 38), type := 0, pos := s, after := #[{ on := 3, ground := Ground.data }], guard := none }
def pl_5 (s : String) : Oper := { dst := some 40, op := Op.load 25 (Operand.tmp 39), type := 25, pos := s, after := #[{ on := 4, ground := Ground.data }], guard := none }
def pl_6 (s : String) : Oper := { dst := some 41, op := Op.move (Operand.tmp 0), type := 22, pos := s, after := #[], guard := none }
def pl_7 (s : String) : Oper := { dst := some 42, op := Op.move (Operand.tmp 6), type := 3, pos := s, after := #[], guard := none }
def pl_8 (s : String) : Oper := { dst := some 43, op := Op.indexAddr 22 (Operand.tmp 41) (Operand.tmp 42), type := 0, pos := s, after := #[{ on := 6, ground := Ground.data }, { on := 7, ground := Ground.data }], guard := none }
def pl_9 (s : String) : Oper := { dst := some 44, op := Op.load 32 (Operand.tmp 43), type := 32, pos := s, after := #[{ on := 8, ground := Ground.data }], guard := none }
def pl_10 (s : String) : Oper := { dst := some 45, op := Op.call { callee := Callee.value (Operand.func 7), args := #[Operand.tmp 37, Operand.tmp 40, Operand.tmp 44], argTypes := #[23, 25, 32] }, type := 4, pos := s, after := #[{ on := 2, ground := Ground.data }, { on := 5, ground := Ground.data }, { on := 9, ground := Ground.data }], guard := none }
def pl_11 (s : String) : Oper := { dst := some 46, op := Op.unOp UnOp.not 4 (Operand.tmp 45), type := 4, pos := s, after := #[{ on := 10, ground := Ground.data }], guard := none }
def pl_ops (s : String) : Array Oper := #[pl_0 s, pl_1 s, pl_2 s, pl_3 s, pl_4 s, pl_5 s, pl_6 s, pl_7 s, pl_8 s, pl_9 s, pl_10 s, pl_11 s]
theorem pl_enter10 (s : String) (a : Act) (w : World) : (execOp a.eval (pl_10 s)).run Try.prog w = .ok (.enter 7 #[a.eval (.tmp 37), a.eval (.tmp 40), a.eval (.tmp 44)]) w := by kernel_rfl
theorem pl_walk (s : String) {Q : Exit → Act → World → Prop} (hQ : ∀ c (a : Act) t v w, Q (.panic c) (a.put (some t) v) w → Q (.panic c) a w) (W : World) (za zb pz rz g o m c i ax : Nat) (sv : List Value) (hsv : sv.length = 36) (ha : ax < 2) (hi : i < m) (M1 : World → Prop) (hS0 : W.drew.cell? ⟨za, ax, none⟩ = some (.pointer (some ⟨pz, 0, none⟩)) ∧ W.drew.cell? ⟨zb, ax, none⟩ = some (.pointer (some ⟨rz, 0, none⟩)) ∧ W.drew.rangeAt g (o + i * 36) sv) (hc1 : Calls Try.prog 7 #[.pointer (some ⟨pz, 0, none⟩), .pointer (some ⟨rz, 0, none⟩), .agg sv.toArray] W.drew fun e w' => e = .returned (.bool true) ∧ M1 w') (hk1 : ∀ w1, M1 w1 → w1.cell? ⟨za, ax, none⟩ = some (.pointer (some ⟨pz, 0, none⟩)) ∧ w1.cell? ⟨zb, ax, none⟩ = some (.pointer (some ⟨rz, 0, none⟩)) ∧ w1.rangeAt g (o + i * 36) sv)
    (a : Act) (hs : 46 < a.tmps.size) (e0 : a.eval (.tmp 0) = .slice (some ⟨g, o, none⟩) m c) (e3 : a.eval (.tmp 3) = .pointer (some ⟨za, 0, none⟩)) (e4 : a.eval (.tmp 4) = .pointer (some ⟨zb, 0, none⟩)) (e6 : a.eval (.tmp 6) = .int .i64 (i : Int)) (e7 : a.eval (.tmp 7) = .int .i64 (ax : Int))
    (h0 : ∀ w1, M1 w1 → Q .normal ((((((((((((a.put (some 35) (.int .i64 (ax : Int))).put (some 36) (.pointer (some ⟨za, ax, none⟩))).put (some 37) (.pointer (some ⟨pz, 0, none⟩))).put (some 38) (.int .i64 (ax : Int))).put (some 39) (.pointer (some ⟨zb, ax, none⟩))).put (some 40) (.pointer (some ⟨rz, 0, none⟩))).put (some 41) (.slice (some ⟨g, o, none⟩) m c)).put (some 42) (.int .i64 (i : Int))).put (some 43) (.pointer (some ⟨g, o + i * 36, none⟩))).put (some 44) (.agg sv.toArray)).put (some 45) (.bool true)).put (some 46) (.bool false)) w1) :
    Code.wp Try.prog (.region 16 (pl_ops s) true) Q a W := by
  refine wp_region_held_drew (S := fun w => w.cell? ⟨za, ax, none⟩ = some (.pointer (some ⟨pz, 0, none⟩)) ∧ w.cell? ⟨zb, ax, none⟩ = some (.pointer (some ⟨rz, 0, none⟩)) ∧ w.rangeAt g (o + i * 36) sv) (by kernel_rfl) hS0 (fun hS => ?_)
  change wpAnyH _ _ _ _ _ _ _ _ (World.drew _)
  refine wpAnyH_take (i := 0) (oi := pl_0 s) (v := .int .i64 (ax : Int)) (by kernel_rfl) (by kernel_rfl) (by kernel_rfl) (by kernel_rfl) (fun c a w h => hQ c _ _ _ w h) (Or.inl ⟨wanted_none rfl, fun w hw => by simp only [execOp, pl_0, e7]; rfl⟩) hS ?_
  change wpAnyH _ _ _ _ _ _ _ (a.put (some 35) (.int .i64 (ax : Int))) _
  obtain ⟨a0_1, ha1⟩ : ∃ rr : Act, rr = a.put (some 35) (.int .i64 (ax : Int)) := ⟨_, rfl⟩
  have qz1 : 46 < a0_1.tmps.size := by rw [ha1, sz_put]; exact hs
  have f1_0 : a0_1.eval (.tmp 0) = .slice (some ⟨g, o, none⟩) m c := by rw [ha1, ev_other _ _ _ _ (by decide)]; exact e0
  have f1_3 : a0_1.eval (.tmp 3) = .pointer (some ⟨za, 0, none⟩) := by rw [ha1, ev_other _ _ _ _ (by decide)]; exact e3
  have f1_4 : a0_1.eval (.tmp 4) = .pointer (some ⟨zb, 0, none⟩) := by rw [ha1, ev_other _ _ _ _ (by decide)]; exact e4
  have f1_6 : a0_1.eval (.tmp 6) = .int .i64 (i : Int) := by rw [ha1, ev_other _ _ _ _ (by decide)]; exact e6
  have f1_7 : a0_1.eval (.tmp 7) = .int .i64 (ax : Int) := by rw [ha1, ev_other _ _ _ _ (by decide)]; exact e7
  have f1_35 : a0_1.eval (.tmp 35) = .int .i64 (ax : Int) := by rw [ha1]; exact ev_same _ _ _ (Nat.lt_of_le_of_lt (by decide) hs)
  rw [← ha1] at h0 ⊢
  clear ha1
  refine wpAnyH_take (i := 1) (oi := pl_1 s) (v := .pointer (some ⟨za, ax, none⟩)) (by kernel_rfl) (by kernel_rfl) (by kernel_rfl) (by kernel_rfl) (fun c a w h => hQ c _ _ _ w h) (Or.inl ⟨wanted_none rfl, fun w hw => run_ix2p rfl f1_3 f1_35 ha w⟩) hS ?_
  change wpAnyH _ _ _ _ _ _ _ (a0_1.put (some 36) (.pointer (some ⟨za, ax, none⟩))) _
  obtain ⟨a0_2, ha2⟩ : ∃ rr : Act, rr = a0_1.put (some 36) (.pointer (some ⟨za, ax, none⟩)) := ⟨_, rfl⟩
  have qz2 : 46 < a0_2.tmps.size := by rw [ha2, sz_put]; exact qz1
  have f2_0 : a0_2.eval (.tmp 0) = .slice (some ⟨g, o, none⟩) m c := by rw [ha2, ev_other _ _ _ _ (by decide)]; exact f1_0
  have f2_4 : a0_2.eval (.tmp 4) = .pointer (some ⟨zb, 0, none⟩) := by rw [ha2, ev_other _ _ _ _ (by decide)]; exact f1_4
  have f2_6 : a0_2.eval (.tmp 6) = .int .i64 (i : Int) := by rw [ha2, ev_other _ _ _ _ (by decide)]; exact f1_6
  have f2_7 : a0_2.eval (.tmp 7) = .int .i64 (ax : Int) := by rw [ha2, ev_other _ _ _ _ (by decide)]; exact f1_7
  have f2_36 : a0_2.eval (.tmp 36) = .pointer (some ⟨za, ax, none⟩) := by rw [ha2]; exact ev_same _ _ _ (Nat.lt_of_le_of_lt (by decide) qz1)
  rw [← ha2] at h0 ⊢
  clear ha2
  refine wpAnyH_take (i := 2) (oi := pl_2 s) (v := .pointer (some ⟨pz, 0, none⟩)) (by kernel_rfl) (by kernel_rfl) (by kernel_rfl) (by kernel_rfl) (fun c a w h => hQ c _ _ _ w h) (Or.inl ⟨wanted_none rfl, fun w hw => run_load rfl f2_36 (load_pp hw.1)⟩) hS ?_
  change wpAnyH _ _ _ _ _ _ _ (a0_2.put (some 37) (.pointer (some ⟨pz, 0, none⟩))) _
  obtain ⟨a0_3, ha3⟩ : ∃ rr : Act, rr = a0_2.put (some 37) (.pointer (some ⟨pz, 0, none⟩)) := ⟨_, rfl⟩
  have qz3 : 46 < a0_3.tmps.size := by rw [ha3, sz_put]; exact qz2
  have f3_0 : a0_3.eval (.tmp 0) = .slice (some ⟨g, o, none⟩) m c := by rw [ha3, ev_other _ _ _ _ (by decide)]; exact f2_0
  have f3_4 : a0_3.eval (.tmp 4) = .pointer (some ⟨zb, 0, none⟩) := by rw [ha3, ev_other _ _ _ _ (by decide)]; exact f2_4
  have f3_6 : a0_3.eval (.tmp 6) = .int .i64 (i : Int) := by rw [ha3, ev_other _ _ _ _ (by decide)]; exact f2_6
  have f3_7 : a0_3.eval (.tmp 7) = .int .i64 (ax : Int) := by rw [ha3, ev_other _ _ _ _ (by decide)]; exact f2_7
  have f3_37 : a0_3.eval (.tmp 37) = .pointer (some ⟨pz, 0, none⟩) := by rw [ha3]; exact ev_same _ _ _ (Nat.lt_of_le_of_lt (by decide) qz2)
  rw [← ha3] at h0 ⊢
  clear ha3
  refine wpAnyH_take (i := 3) (oi := pl_3 s) (v := .int .i64 (ax : Int)) (by kernel_rfl) (by kernel_rfl) (by kernel_rfl) (by kernel_rfl) (fun c a w h => hQ c _ _ _ w h) (Or.inl ⟨wanted_none rfl, fun w hw => by simp only [execOp, pl_3, f3_7]; rfl⟩) hS ?_
  change wpAnyH _ _ _ _ _ _ _ (a0_3.put (some 38) (.int .i64 (ax : Int))) _
  obtain ⟨a0_4, ha4⟩ : ∃ rr : Act, rr = a0_3.put (some 38) (.int .i64 (ax : Int)) := ⟨_, rfl⟩
  have qz4 : 46 < a0_4.tmps.size := by rw [ha4, sz_put]; exact qz3
  have f4_0 : a0_4.eval (.tmp 0) = .slice (some ⟨g, o, none⟩) m c := by rw [ha4, ev_other _ _ _ _ (by decide)]; exact f3_0
  have f4_4 : a0_4.eval (.tmp 4) = .pointer (some ⟨zb, 0, none⟩) := by rw [ha4, ev_other _ _ _ _ (by decide)]; exact f3_4
  have f4_6 : a0_4.eval (.tmp 6) = .int .i64 (i : Int) := by rw [ha4, ev_other _ _ _ _ (by decide)]; exact f3_6
  have f4_37 : a0_4.eval (.tmp 37) = .pointer (some ⟨pz, 0, none⟩) := by rw [ha4, ev_other _ _ _ _ (by decide)]; exact f3_37
  have f4_38 : a0_4.eval (.tmp 38) = .int .i64 (ax : Int) := by rw [ha4]; exact ev_same _ _ _ (Nat.lt_of_le_of_lt (by decide) qz3)
  rw [← ha4] at h0 ⊢
  clear ha4
  refine wpAnyH_take (i := 4) (oi := pl_4 s) (v := .pointer (some ⟨zb, ax, none⟩)) (by kernel_rfl) (by kernel_rfl) (by kernel_rfl) (by kernel_rfl) (fun c a w h => hQ c _ _ _ w h) (Or.inl ⟨wanted_none rfl, fun w hw => run_ix2r rfl f4_4 f4_38 ha w⟩) hS ?_
  change wpAnyH _ _ _ _ _ _ _ (a0_4.put (some 39) (.pointer (some ⟨zb, ax, none⟩))) _
  obtain ⟨a0_5, ha5⟩ : ∃ rr : Act, rr = a0_4.put (some 39) (.pointer (some ⟨zb, ax, none⟩)) := ⟨_, rfl⟩
  have qz5 : 46 < a0_5.tmps.size := by rw [ha5, sz_put]; exact qz4
  have f5_0 : a0_5.eval (.tmp 0) = .slice (some ⟨g, o, none⟩) m c := by rw [ha5, ev_other _ _ _ _ (by decide)]; exact f4_0
  have f5_6 : a0_5.eval (.tmp 6) = .int .i64 (i : Int) := by rw [ha5, ev_other _ _ _ _ (by decide)]; exact f4_6
  have f5_37 : a0_5.eval (.tmp 37) = .pointer (some ⟨pz, 0, none⟩) := by rw [ha5, ev_other _ _ _ _ (by decide)]; exact f4_37
  have f5_39 : a0_5.eval (.tmp 39) = .pointer (some ⟨zb, ax, none⟩) := by rw [ha5]; exact ev_same _ _ _ (Nat.lt_of_le_of_lt (by decide) qz4)
  rw [← ha5] at h0 ⊢
  clear ha5
  refine wpAnyH_take (i := 5) (oi := pl_5 s) (v := .pointer (some ⟨rz, 0, none⟩)) (by kernel_rfl) (by kernel_rfl) (by kernel_rfl) (by kernel_rfl) (fun c a w h => hQ c _ _ _ w h) (Or.inl ⟨wanted_none rfl, fun w hw => run_load rfl f5_39 (load_pr hw.2.1)⟩) hS ?_
  change wpAnyH _ _ _ _ _ _ _ (a0_5.put (some 40) (.pointer (some ⟨rz, 0, none⟩))) _
  obtain ⟨a0_6, ha6⟩ : ∃ rr : Act, rr = a0_5.put (some 40) (.pointer (some ⟨rz, 0, none⟩)) := ⟨_, rfl⟩
  have qz6 : 46 < a0_6.tmps.size := by rw [ha6, sz_put]; exact qz5
  have f6_0 : a0_6.eval (.tmp 0) = .slice (some ⟨g, o, none⟩) m c := by rw [ha6, ev_other _ _ _ _ (by decide)]; exact f5_0
  have f6_6 : a0_6.eval (.tmp 6) = .int .i64 (i : Int) := by rw [ha6, ev_other _ _ _ _ (by decide)]; exact f5_6
  have f6_37 : a0_6.eval (.tmp 37) = .pointer (some ⟨pz, 0, none⟩) := by rw [ha6, ev_other _ _ _ _ (by decide)]; exact f5_37
  have f6_40 : a0_6.eval (.tmp 40) = .pointer (some ⟨rz, 0, none⟩) := by rw [ha6]; exact ev_same _ _ _ (Nat.lt_of_le_of_lt (by decide) qz5)
  rw [← ha6] at h0 ⊢
  clear ha6
  refine wpAnyH_take (i := 6) (oi := pl_6 s) (v := .slice (some ⟨g, o, none⟩) m c) (by kernel_rfl) (by kernel_rfl) (by kernel_rfl) (by kernel_rfl) (fun c a w h => hQ c _ _ _ w h) (Or.inl ⟨wanted_none rfl, fun w hw => by simp only [execOp, pl_6, f6_0]; rfl⟩) hS ?_
  change wpAnyH _ _ _ _ _ _ _ (a0_6.put (some 41) (.slice (some ⟨g, o, none⟩) m c)) _
  obtain ⟨a0_7, ha7⟩ : ∃ rr : Act, rr = a0_6.put (some 41) (.slice (some ⟨g, o, none⟩) m c) := ⟨_, rfl⟩
  have qz7 : 46 < a0_7.tmps.size := by rw [ha7, sz_put]; exact qz6
  have f7_6 : a0_7.eval (.tmp 6) = .int .i64 (i : Int) := by rw [ha7, ev_other _ _ _ _ (by decide)]; exact f6_6
  have f7_37 : a0_7.eval (.tmp 37) = .pointer (some ⟨pz, 0, none⟩) := by rw [ha7, ev_other _ _ _ _ (by decide)]; exact f6_37
  have f7_40 : a0_7.eval (.tmp 40) = .pointer (some ⟨rz, 0, none⟩) := by rw [ha7, ev_other _ _ _ _ (by decide)]; exact f6_40
  have f7_41 : a0_7.eval (.tmp 41) = .slice (some ⟨g, o, none⟩) m c := by rw [ha7]; exact ev_same _ _ _ (Nat.lt_of_le_of_lt (by decide) qz6)
  rw [← ha7] at h0 ⊢
  clear ha7
  refine wpAnyH_take (i := 7) (oi := pl_7 s) (v := .int .i64 (i : Int)) (by kernel_rfl) (by kernel_rfl) (by kernel_rfl) (by kernel_rfl) (fun c a w h => hQ c _ _ _ w h) (Or.inl ⟨wanted_none rfl, fun w hw => by simp only [execOp, pl_7, f7_6]; rfl⟩) hS ?_
  change wpAnyH _ _ _ _ _ _ _ (a0_7.put (some 42) (.int .i64 (i : Int))) _
  obtain ⟨a0_8, ha8⟩ : ∃ rr : Act, rr = a0_7.put (some 42) (.int .i64 (i : Int)) := ⟨_, rfl⟩
  have qz8 : 46 < a0_8.tmps.size := by rw [ha8, sz_put]; exact qz7
  have f8_37 : a0_8.eval (.tmp 37) = .pointer (some ⟨pz, 0, none⟩) := by rw [ha8, ev_other _ _ _ _ (by decide)]; exact f7_37
  have f8_40 : a0_8.eval (.tmp 40) = .pointer (some ⟨rz, 0, none⟩) := by rw [ha8, ev_other _ _ _ _ (by decide)]; exact f7_40
  have f8_41 : a0_8.eval (.tmp 41) = .slice (some ⟨g, o, none⟩) m c := by rw [ha8, ev_other _ _ _ _ (by decide)]; exact f7_41
  have f8_42 : a0_8.eval (.tmp 42) = .int .i64 (i : Int) := by rw [ha8]; exact ev_same _ _ _ (Nat.lt_of_le_of_lt (by decide) qz7)
  rw [← ha8] at h0 ⊢
  clear ha8
  refine wpAnyH_take (i := 8) (oi := pl_8 s) (v := .pointer (some ⟨g, o + i * 36, none⟩)) (by kernel_rfl) (by kernel_rfl) (by kernel_rfl) (by kernel_rfl) (fun c a w h => hQ c _ _ _ w h) (Or.inl ⟨wanted_none rfl, fun w hw => run_idxSt rfl f8_41 f8_42 hi w⟩) hS ?_
  change wpAnyH _ _ _ _ _ _ _ (a0_8.put (some 43) (.pointer (some ⟨g, o + i * 36, none⟩))) _
  obtain ⟨a0_9, ha9⟩ : ∃ rr : Act, rr = a0_8.put (some 43) (.pointer (some ⟨g, o + i * 36, none⟩)) := ⟨_, rfl⟩
  have qz9 : 46 < a0_9.tmps.size := by rw [ha9, sz_put]; exact qz8
  have f9_37 : a0_9.eval (.tmp 37) = .pointer (some ⟨pz, 0, none⟩) := by rw [ha9, ev_other _ _ _ _ (by decide)]; exact f8_37
  have f9_40 : a0_9.eval (.tmp 40) = .pointer (some ⟨rz, 0, none⟩) := by rw [ha9, ev_other _ _ _ _ (by decide)]; exact f8_40
  have f9_43 : a0_9.eval (.tmp 43) = .pointer (some ⟨g, o + i * 36, none⟩) := by rw [ha9]; exact ev_same _ _ _ (Nat.lt_of_le_of_lt (by decide) qz8)
  rw [← ha9] at h0 ⊢
  clear ha9
  refine wpAnyH_take (i := 9) (oi := pl_9 s) (v := .agg sv.toArray) (by kernel_rfl) (by kernel_rfl) (by kernel_rfl) (by kernel_rfl) (fun c a w h => hQ c _ _ _ w h) (Or.inl ⟨wanted_none rfl, fun w hw => run_load rfl f9_43 (loadAt_st hsv hw.2.2)⟩) hS ?_
  change wpAnyH _ _ _ _ _ _ _ (a0_9.put (some 44) (.agg sv.toArray)) _
  obtain ⟨a0_10, ha10⟩ : ∃ rr : Act, rr = a0_9.put (some 44) (.agg sv.toArray) := ⟨_, rfl⟩
  have qz10 : 46 < a0_10.tmps.size := by rw [ha10, sz_put]; exact qz9
  have f10_37 : a0_10.eval (.tmp 37) = .pointer (some ⟨pz, 0, none⟩) := by rw [ha10, ev_other _ _ _ _ (by decide)]; exact f9_37
  have f10_40 : a0_10.eval (.tmp 40) = .pointer (some ⟨rz, 0, none⟩) := by rw [ha10, ev_other _ _ _ _ (by decide)]; exact f9_40
  have f10_44 : a0_10.eval (.tmp 44) = .agg sv.toArray := by rw [ha10]; exact ev_same _ _ _ (Nat.lt_of_le_of_lt (by decide) qz9)
  rw [← ha10] at h0 ⊢
  clear ha10
  refine wpAnyH_ready (rs := [10]) (by kernel_rfl) (by simp) ?_
  refine AllReadyH.cons (o := pl_10 s) (by kernel_rfl) (fun KQ hKQ => ?_) AllReadyH.nil
  rw [if_pos (wanted_none rfl)]
  refine step_enterE 7 #[.pointer (some ⟨pz, 0, none⟩), .pointer (some ⟨rz, 0, none⟩), .agg sv.toArray] (by rw [pl_enter10, f10_37, f10_40, f10_44]) (fun V w' => V = .bool true ∧ M1 w') (hc1.mono (fun e w' h => ⟨_, h.1, rfl, h.2⟩)) ?_
  rintro _ w1 ⟨rfl, hM1⟩
  refine hKQ.out _ _ (hk1 w1 hM1) (fun _ => ?_)
  clear hKQ KQ
  change wpAnyH _ _ _ _ _ _ _ (a0_10.put (some 45) (.bool true)) _
  have h0 := h0 w1 hM1
  obtain ⟨a0_11, ha11⟩ : ∃ rr : Act, rr = a0_10.put (some 45) (.bool true) := ⟨_, rfl⟩
  have qz11 : 46 < a0_11.tmps.size := by rw [ha11, sz_put]; exact qz10
  have f11_45 : a0_11.eval (.tmp 45) = .bool true := by rw [ha11]; exact ev_same _ _ _ (Nat.lt_of_le_of_lt (by decide) qz10)
  rw [← ha11] at h0 ⊢
  clear ha11
  refine wpAnyH_take (i := 11) (oi := pl_11 s) (v := .bool false) (by kernel_rfl) (by kernel_rfl) (by kernel_rfl) (by kernel_rfl) (fun c a w h => hQ c _ _ _ w h) (Or.inl ⟨wanted_none rfl, fun w hw => run_notT rfl f11_45 w⟩) (hk1 w1 hM1) ?_
  change wpAnyH _ _ _ _ _ _ _ (a0_11.put (some 46) (.bool false)) _
  obtain ⟨a0_12, ha12⟩ : ∃ rr : Act, rr = a0_11.put (some 46) (.bool false) := ⟨_, rfl⟩
  have qz12 : 46 < a0_12.tmps.size := by rw [ha12, sz_put]; exact qz11
  rw [← ha12] at h0 ⊢
  clear ha12
  refine wpAnyH_done (by kernel_rfl) ?_ _
  exact h0
def pm_0 (s : String) : Oper := { dst := some 52, op := Op.move (Operand.tmp 9), type := 3, pos := s, after := #[], guard := none }
def pm_1 (s : String) : Oper := { dst := some 53, op := Op.indexAddr 24 (Operand.tmp 3) (Operand.tmp 52), type := 0, pos := s, after := #[{ on := 0, ground := Ground.data }], guard := none }
def pm_2 (s : String) : Oper := { dst := some 54, op := Op.load 23 (Operand.tmp 53), type := 23, pos := s, after := #[{ on := 1, ground := Ground.data }], guard := none }
def pm_3 (s : String) : Oper := { dst := some 55, op := Op.move (Operand.tmp 9), type := 3, pos := s, after := #[], guard := none }
def pm_4 (s : String) : Oper := { dst := some 56, op := Op.indexAddr 26 (Operand.tmp 4) (Operand.tmp 55), type := 0, pos := s, after := #[{ on := 3, ground := Ground.data }], guard := none }
def pm_5 (s : String) : Oper := { dst := some 57, op := Op.load 25 (Operand.tmp 56), type := 25, pos := s, after := #[{ on := 4, ground := Ground.data }], guard := none }
def pm_6 (s : String) : Oper := { dst := some 58, op := Op.build 32 #[(0, Operand.const (Value.int IntKind.i64 10))], type := 32, pos := s, after := #[], guard := none }
def pm_7 (s : String) : Oper := { dst := some 59, op := Op.call { callee := Callee.value (Operand.func 7), args := #[Operand.tmp 54, Operand.tmp 57, Operand.tmp 58], argTypes := #[23, 25, 32] }, type := 4, pos := s, after := #[{ on := 2, ground := Ground.data }, { on := 5, ground := Ground.data }, { on := 6, ground := Ground.data }], guard := none }
def pm_8 (s : String) : Oper := { dst := some 60, op := Op.unOp UnOp.not 4 (Operand.tmp 59), type := 4, pos := s, after := #[{ on := 7, ground := Ground.data }], guard := none }
def pm_9 (s : String) : Oper := { dst := some 61, op := Op.move (Operand.tmp 60), type := 4, pos := s, after := #[{ on := 8, ground := Ground.data }, { on := 7, ground := Ground.chain }], guard := none }
def pm_10 (s : String) : Oper := { dst := some 62, op := Op.move (Operand.tmp 9), type := 3, pos := s, after := #[{ on := 9, ground := Ground.guard }], guard := some (9, false) }
def pm_11 (s : String) : Oper := { dst := some 63, op := Op.indexAddr 24 (Operand.tmp 3) (Operand.tmp 62), type := 0, pos := s, after := #[{ on := 10, ground := Ground.data }, { on := 9, ground := Ground.guard }], guard := some (9, false) }
def pm_12 (s : String) : Oper := { dst := some 64, op := Op.load 23 (Operand.tmp 63), type := 23, pos := s, after := #[{ on := 11, ground := Ground.data }, { on := 9, ground := Ground.guard }], guard := some (9, false) }
def pm_13 (s : String) : Oper := { dst := some 65, op := Op.move (Operand.tmp 9), type := 3, pos := s, after := #[{ on := 9, ground := Ground.guard }], guard := some (9, false) }
def pm_14 (s : String) : Oper := { dst := some 66, op := Op.indexAddr 26 (Operand.tmp 4) (Operand.tmp 65), type := 0, pos := s, after := #[{ on := 13, ground := Ground.data }, { on := 9, ground := Ground.guard }], guard := some (9, false) }
def pm_15 (s : String) : Oper := { dst := some 67, op := Op.load 25 (Operand.tmp 66), type := 25, pos := s, after := #[{ on := 14, ground := Ground.data }, { on := 9, ground := Ground.guard }], guard := some (9, false) }
def pm_16 (s : String) : Oper := { dst := some 68, op := Op.build 32 #[(0, Operand.const (Value.int IntKind.i64 0)), (2, Operand.const (Value.int IntKind.i64 3))], type := 32, pos := s, after := #[{ on := 9, ground := Ground.guard }], guard := some (9, false) }
def pm_17 (s : String) : Oper := { dst := some 69, op := Op.call { callee := Callee.value (Operand.func 7), args := #[Operand.tmp 64, Operand.tmp 67, Operand.tmp 68], argTypes := #[23, 25, 32] }, type := 4, pos := s, after := #[{ on := 12, ground := Ground.data }, { on := 15, ground := Ground.data }, { on := 16, ground := Ground.data }, { on := 9, ground := Ground.chain }, { on := 9, ground := Ground.guard }], guard := some (9, false) }
def pm_18 (s : String) : Oper := { dst := some 70, op := Op.unOp UnOp.not 4 (Operand.tmp 69), type := 4, pos := s, after := #[{ on := 17, ground := Ground.data }, { on := 9, ground := Ground.guard }], guard := some (9, false) }
def pm_19 (s : String) : Oper := { dst := some 71, op := Op.pick (Operand.tmp 61) (Operand.const (Value.bool true)) (Operand.tmp 70), type := 4, pos := s, after := #[{ on := 9, ground := Ground.data }, { on := 18, ground := Ground.data }], guard := none }
def pm_20 (s : String) : Oper := { dst := some 72, op := Op.move (Operand.tmp 71), type := 4, pos := s, after := #[{ on := 19, ground := Ground.data }, { on := 17, ground := Ground.chain }], guard := none }
def pm_21 (s : String) : Oper := { dst := some 73, op := Op.move (Operand.tmp 9), type := 3, pos := s, after := #[{ on := 20, ground := Ground.guard }], guard := some (20, false) }
def pm_22 (s : String) : Oper := { dst := some 74, op := Op.indexAddr 24 (Operand.tmp 3) (Operand.tmp 73), type := 0, pos := s, after := #[{ on := 21, ground := Ground.data }, { on := 20, ground := Ground.guard }], guard := some (20, false) }
def pm_23 (s : String) : Oper := { dst := some 75, op := Op.load 23 (Operand.tmp 74), type := 23, pos := s, after := #[{ on := 22, ground := Ground.data }, { on := 20, ground := Ground.guard }], guard := some (20, false) }
def pm_24 (s : String) : Oper := { dst := some 76, op := Op.move (Operand.tmp 9), type := 3, pos := s, after := #[{ on := 20, ground := Ground.guard }], guard := some (20, false) }
def pm_25 (s : String) : Oper := { dst := some 77, op := Op.indexAddr 26 (Operand.tmp 4) (Operand.tmp 76), type := 0, pos := s, after := #[{ on := 24, ground := Ground.data }, { on := 20, ground := Ground.guard }], guard := some (20, false) }
def pm_26 (s : String) : Oper := { dst := some 78, op := Op.load 25 (Operand.tmp 77), type := 25, pos := s, after := #[{ on := 25, ground := Ground.data }, { on := 20, ground := Ground.guard }], guard := some (20, false) }
def pm_27 (s : String) : Oper := { dst := some 79, op := Op.load 30 (Operand.tmp 8), type := 30, pos := s, after := #[{ on := 20, ground := Ground.guard }], guard := some (20, false) }
def pm_28 (s : String) : Oper := { dst := some 80, op := Op.build 32 #[(0, Operand.const (Value.int IntKind.i64 2)), (2, Operand.const (Value.int IntKind.i64 3)), (3, Operand.tmp 79)], type := 32, pos := s, after := #[{ on := 27, ground := Ground.data }, { on := 20, ground := Ground.guard }], guard := some (20, false) }
def pm_29 (s : String) : Oper := { dst := some 81, op := Op.call { callee := Callee.value (Operand.func 7), args := #[Operand.tmp 75, Operand.tmp 78, Operand.tmp 80], argTypes := #[23, 25, 32] }, type := 4, pos := s, after := #[{ on := 23, ground := Ground.data }, { on := 26, ground := Ground.data }, { on := 28, ground := Ground.data }, { on := 20, ground := Ground.chain }, { on := 20, ground := Ground.guard }], guard := some (20, false) }
def pm_30 (s : String) : Oper := { dst := some 82, op := Op.unOp UnOp.not 4 (Operand.tmp 81), type := 4, pos := s, after := #[{ on := 29, ground := Ground.data }, { on := 20, ground := Ground.guard }], guard := some (20, false) }
def pm_31 (s : String) : Oper := { dst := some 83, op := Op.pick (Operand.tmp 72) (Operand.const (Value.bool true)) (Operand.tmp 82), type := 4, pos := s, after := #[{ on := 20, ground := Ground.data }, { on := 30, ground := Ground.data }], guard := none }
def pm_32 (s : String) : Oper := { dst := some 84, op := Op.move (Operand.tmp 83), type := 4, pos := s, after := #[{ on := 31, ground := Ground.data }, { on := 29, ground := Ground.chain }], guard := none }
def pm_33 (s : String) : Oper := { dst := some 85, op := Op.move (Operand.tmp 9), type := 3, pos := s, after := #[{ on := 32, ground := Ground.guard }], guard := some (32, false) }
def pm_34 (s : String) : Oper := { dst := some 86, op := Op.indexAddr 24 (Operand.tmp 3) (Operand.tmp 85), type := 0, pos := s, after := #[{ on := 33, ground := Ground.data }, { on := 32, ground := Ground.guard }], guard := some (32, false) }
def pm_35 (s : String) : Oper := { dst := some 87, op := Op.load 23 (Operand.tmp 86), type := 23, pos := s, after := #[{ on := 34, ground := Ground.data }, { on := 32, ground := Ground.guard }], guard := some (32, false) }
def pm_36 (s : String) : Oper := { dst := some 88, op := Op.move (Operand.tmp 9), type := 3, pos := s, after := #[{ on := 32, ground := Ground.guard }], guard := some (32, false) }
def pm_37 (s : String) : Oper := { dst := some 89, op := Op.indexAddr 26 (Operand.tmp 4) (Operand.tmp 88), type := 0, pos := s, after := #[{ on := 36, ground := Ground.data }, { on := 32, ground := Ground.guard }], guard := some (32, false) }
def pm_38 (s : String) : Oper := { dst := some 90, op := Op.load 25 (Operand.tmp 89), type := 25, pos := s, after := #[{ on := 37, ground := Ground.data }, { on := 32, ground := Ground.guard }], guard := some (32, false) }
def pm_39 (s : String) : Oper := { dst := some 91, op := Op.load 30 (Operand.tmp 8), type := 30, pos := s, after := #[{ on := 32, ground := Ground.guard }], guard := some (32, false) }
def pm_40 (s : String) : Oper := { dst := some 92, op := Op.build 32 #[(0, Operand.const (Value.int IntKind.i64 6)), (2, Operand.const (Value.int IntKind.i64 3)), (3, Operand.tmp 91)], type := 32, pos := s, after := #[{ on := 39, ground := Ground.data }, { on := 32, ground := Ground.guard }], guard := some (32, false) }
def pm_41 (s : String) : Oper := { dst := some 93, op := Op.call { callee := Callee.value (Operand.func 7), args := #[Operand.tmp 87, Operand.tmp 90, Operand.tmp 92], argTypes := #[23, 25, 32] }, type := 4, pos := s, after := #[{ on := 35, ground := Ground.data }, { on := 38, ground := Ground.data }, { on := 40, ground := Ground.data }, { on := 32, ground := Ground.chain }, { on := 32, ground := Ground.guard }], guard := some (32, false) }
def pm_42 (s : String) : Oper := { dst := some 94, op := Op.unOp UnOp.not 4 (Operand.tmp 93), type := 4, pos := s, after := #[{ on := 41, ground := Ground.data }, { on := 32, ground := Ground.guard }], guard := some (32, false) }
def pm_43 (s : String) : Oper := { dst := some 95, op := Op.pick (Operand.tmp 84) (Operand.const (Value.bool true)) (Operand.tmp 94), type := 4, pos := s, after := #[{ on := 32, ground := Ground.data }, { on := 42, ground := Ground.data }], guard := none }
def pm_44 (s : String) : Oper := { dst := some 96, op := Op.move (Operand.tmp 95), type := 4, pos := s, after := #[{ on := 43, ground := Ground.data }, { on := 41, ground := Ground.chain }], guard := none }
def pm_45 (s : String) : Oper := { dst := some 97, op := Op.move (Operand.tmp 9), type := 3, pos := s, after := #[{ on := 44, ground := Ground.guard }], guard := some (44, false) }
def pm_46 (s : String) : Oper := { dst := some 98, op := Op.indexAddr 24 (Operand.tmp 3) (Operand.tmp 97), type := 0, pos := s, after := #[{ on := 45, ground := Ground.data }, { on := 44, ground := Ground.guard }], guard := some (44, false) }
def pm_47 (s : String) : Oper := { dst := some 99, op := Op.load 23 (Operand.tmp 98), type := 23, pos := s, after := #[{ on := 46, ground := Ground.data }, { on := 44, ground := Ground.guard }], guard := some (44, false) }
def pm_48 (s : String) : Oper := { dst := some 100, op := Op.move (Operand.tmp 9), type := 3, pos := s, after := #[{ on := 44, ground := Ground.guard }], guard := some (44, false) }
def pm_49 (s : String) : Oper := { dst := some 101, op := Op.indexAddr 26 (Operand.tmp 4) (Operand.tmp 100), type := 0, pos := s, after := #[{ on := 48, ground := Ground.data }, { on := 44, ground := Ground.guard }], guard := some (44, false) }
def pm_50 (s : String) : Oper := { dst := some 102, op := Op.load 25 (Operand.tmp 101), type := 25, pos := s, after := #[{ on := 49, ground := Ground.data }, { on := 44, ground := Ground.guard }], guard := some (44, false) }
def pm_51 (s : String) : Oper := { dst := some 103, op := Op.load 30 (Operand.tmp 8), type := 30, pos := s, after := #[{ on := 44, ground := Ground.guard }], guard := some (44, false) }
def pm_52 (s : String) : Oper := { dst := some 104, op := Op.build 32 #[(0, Operand.const (Value.int IntKind.i64 9)), (3, Operand.tmp 103)], type := 32, pos := s, after := #[{ on := 51, ground := Ground.data }, { on := 44, ground := Ground.guard }], guard := some (44, false) }
def pm_53 (s : String) : Oper := { dst := some 105, op := Op.call { callee := Callee.value (Operand.func 7), args := #[Operand.tmp 99, Operand.tmp 102, Operand.tmp 104], argTypes := #[23, 25, 32] }, type := 4, pos := s, after := #[{ on := 47, ground := Ground.data }, { on := 50, ground := Ground.data }, { on := 52, ground := Ground.data }, { on := 44, ground := Ground.chain }, { on := 44, ground := Ground.guard }], guard := some (44, false) }
def pm_54 (s : String) : Oper := { dst := some 106, op := Op.unOp UnOp.not 4 (Operand.tmp 105), type := 4, pos := s, after := #[{ on := 53, ground := Ground.data }, { on := 44, ground := Ground.guard }], guard := some (44, false) }
def pm_55 (s : String) : Oper := { dst := some 107, op := Op.pick (Operand.tmp 96) (Operand.const (Value.bool true)) (Operand.tmp 106), type := 4, pos := s, after := #[{ on := 44, ground := Ground.data }, { on := 54, ground := Ground.data }], guard := none }
def pm_ops (s : String) : Array Oper := #[pm_0 s, pm_1 s, pm_2 s, pm_3 s, pm_4 s, pm_5 s, pm_6 s, pm_7 s, pm_8 s, pm_9 s, pm_10 s, pm_11 s, pm_12 s, pm_13 s, pm_14 s, pm_15 s, pm_16 s, pm_17 s, pm_18 s, pm_19 s, pm_20 s, pm_21 s, pm_22 s, pm_23 s, pm_24 s, pm_25 s, pm_26 s, pm_27 s, pm_28 s, pm_29 s, pm_30 s, pm_31 s, pm_32 s, pm_33 s, pm_34 s, pm_35 s, pm_36 s, pm_37 s, pm_38 s, pm_39 s, pm_40 s, pm_41 s, pm_42 s, pm_43 s, pm_44 s, pm_45 s, pm_46 s, pm_47 s, pm_48 s, pm_49 s, pm_50 s, pm_51 s, pm_52 s, pm_53 s, pm_54 s, pm_55 s]
theorem bl0 {a : Act} (s : String) (w : World) : (execOp a.eval (pm_6 s)).run Try.prog w = .ok (.value (.agg (stL 10 false 0 zK5 false).toArray)) w := by kernel_rfl
theorem bl1 {a : Act} (s : String) (w : World) : (execOp a.eval (pm_16 s)).run Try.prog w = .ok (.value (.agg (stL 0 false 3 zK5 false).toArray)) w := by kernel_rfl
theorem bl2 {a : Act} (s : String) (h : a.eval (.tmp 79) = keyV K5) (w : World) : (execOp a.eval (pm_28 s)).run Try.prog w = .ok (.value (.agg (stL 2 false 3 K5 false).toArray)) w := by
  simp only [execOp, pm_28]
  simp only [List.map_toArray, List.map_cons, List.map_nil, h]
  kernel_rfl
theorem bl3 {a : Act} (s : String) (h : a.eval (.tmp 91) = keyV K5) (w : World) : (execOp a.eval (pm_40 s)).run Try.prog w = .ok (.value (.agg (stL 6 false 3 K5 false).toArray)) w := by
  simp only [execOp, pm_40]
  simp only [List.map_toArray, List.map_cons, List.map_nil, h]
  kernel_rfl
theorem bl4 {a : Act} (s : String) (h : a.eval (.tmp 103) = keyV K5) (w : World) : (execOp a.eval (pm_52 s)).run Try.prog w = .ok (.value (.agg (stL 9 false 0 K5 false).toArray)) w := by
  simp only [execOp, pm_52]
  simp only [List.map_toArray, List.map_cons, List.map_nil, h]
  kernel_rfl
theorem pm_enter7 (s : String) (a : Act) (w : World) : (execOp a.eval (pm_7 s)).run Try.prog w = .ok (.enter 7 #[a.eval (.tmp 54), a.eval (.tmp 57), a.eval (.tmp 58)]) w := by kernel_rfl
theorem pm_enter17 (s : String) (a : Act) (w : World) : (execOp a.eval (pm_17 s)).run Try.prog w = .ok (.enter 7 #[a.eval (.tmp 64), a.eval (.tmp 67), a.eval (.tmp 68)]) w := by kernel_rfl
theorem pm_enter29 (s : String) (a : Act) (w : World) : (execOp a.eval (pm_29 s)).run Try.prog w = .ok (.enter 7 #[a.eval (.tmp 75), a.eval (.tmp 78), a.eval (.tmp 80)]) w := by kernel_rfl
theorem pm_enter41 (s : String) (a : Act) (w : World) : (execOp a.eval (pm_41 s)).run Try.prog w = .ok (.enter 7 #[a.eval (.tmp 87), a.eval (.tmp 90), a.eval (.tmp 92)]) w := by kernel_rfl
theorem pm_enter53 (s : String) (a : Act) (w : World) : (execOp a.eval (pm_53 s)).run Try.prog w = .ok (.enter 7 #[a.eval (.tmp 99), a.eval (.tmp 102), a.eval (.tmp 104)]) w := by kernel_rfl
theorem pm_walk (s : String) {Q : Exit → Act → World → Prop} (hQ : ∀ c (a : Act) t v w, Q (.panic c) (a.put (some t) v) w → Q (.panic c) a w) (W : World) (za zb pz rz zk ax : Nat) (ha : ax < 2) (M1 M2 M3 M4 M5 : World → Prop) (hS0 : W.drew.cell? ⟨za, ax, none⟩ = some (.pointer (some ⟨pz, 0, none⟩)) ∧ W.drew.cell? ⟨zb, ax, none⟩ = some (.pointer (some ⟨rz, 0, none⟩)) ∧ KeyAt W.drew zk K5) (hc1 : Calls Try.prog 7 #[.pointer (some ⟨pz, 0, none⟩), .pointer (some ⟨rz, 0, none⟩), .agg (stL 10 false 0 zK5 false).toArray] W.drew fun e w' => e = .returned (.bool true) ∧ M1 w') (hk1 : ∀ w1, M1 w1 → w1.cell? ⟨za, ax, none⟩ = some (.pointer (some ⟨pz, 0, none⟩)) ∧ w1.cell? ⟨zb, ax, none⟩ = some (.pointer (some ⟨rz, 0, none⟩)) ∧ KeyAt w1 zk K5) (hc2 : ∀ w0, M1 w0 → Calls Try.prog 7 #[.pointer (some ⟨pz, 0, none⟩), .pointer (some ⟨rz, 0, none⟩), .agg (stL 0 false 3 zK5 false).toArray] w0 fun e w' => e = .returned (.bool true) ∧ M2 w') (hk2 : ∀ w1, M2 w1 → w1.cell? ⟨za, ax, none⟩ = some (.pointer (some ⟨pz, 0, none⟩)) ∧ w1.cell? ⟨zb, ax, none⟩ = some (.pointer (some ⟨rz, 0, none⟩)) ∧ KeyAt w1 zk K5) (hc3 : ∀ w0, M2 w0 → Calls Try.prog 7 #[.pointer (some ⟨pz, 0, none⟩), .pointer (some ⟨rz, 0, none⟩), .agg (stL 2 false 3 K5 false).toArray] w0 fun e w' => e = .returned (.bool true) ∧ M3 w') (hk3 : ∀ w1, M3 w1 → w1.cell? ⟨za, ax, none⟩ = some (.pointer (some ⟨pz, 0, none⟩)) ∧ w1.cell? ⟨zb, ax, none⟩ = some (.pointer (some ⟨rz, 0, none⟩)) ∧ KeyAt w1 zk K5) (hc4 : ∀ w0, M3 w0 → Calls Try.prog 7 #[.pointer (some ⟨pz, 0, none⟩), .pointer (some ⟨rz, 0, none⟩), .agg (stL 6 false 3 K5 false).toArray] w0 fun e w' => e = .returned (.bool true) ∧ M4 w') (hk4 : ∀ w1, M4 w1 → w1.cell? ⟨za, ax, none⟩ = some (.pointer (some ⟨pz, 0, none⟩)) ∧ w1.cell? ⟨zb, ax, none⟩ = some (.pointer (some ⟨rz, 0, none⟩)) ∧ KeyAt w1 zk K5) (hc5 : ∀ w0, M4 w0 → Calls Try.prog 7 #[.pointer (some ⟨pz, 0, none⟩), .pointer (some ⟨rz, 0, none⟩), .agg (stL 9 false 0 K5 false).toArray] w0 fun e w' => e = .returned (.bool true) ∧ M5 w') (hk5 : ∀ w1, M5 w1 → w1.cell? ⟨za, ax, none⟩ = some (.pointer (some ⟨pz, 0, none⟩)) ∧ w1.cell? ⟨zb, ax, none⟩ = some (.pointer (some ⟨rz, 0, none⟩)) ∧ KeyAt w1 zk K5)
    (a : Act) (hs : 107 < a.tmps.size) (e3 : a.eval (.tmp 3) = .pointer (some ⟨za, 0, none⟩)) (e4 : a.eval (.tmp 4) = .pointer (some ⟨zb, 0, none⟩)) (e8 : a.eval (.tmp 8) = .pointer (some ⟨zk, 0, none⟩)) (e9 : a.eval (.tmp 9) = .int .i64 (ax : Int))
    (h0 : ∀ w5, M5 w5 → Q .normal ((((((((((((((((((((((((((((((((((((((((((((((((((((((((a.put (some 52) (.int .i64 (ax : Int))).put (some 53) (.pointer (some ⟨za, ax, none⟩))).put (some 54) (.pointer (some ⟨pz, 0, none⟩))).put (some 55) (.int .i64 (ax : Int))).put (some 56) (.pointer (some ⟨zb, ax, none⟩))).put (some 57) (.pointer (some ⟨rz, 0, none⟩))).put (some 58) (.agg (stL 10 false 0 zK5 false).toArray)).put (some 59) (.bool true)).put (some 60) (.bool false)).put (some 61) (.bool false)).put (some 62) (.int .i64 (ax : Int))).put (some 63) (.pointer (some ⟨za, ax, none⟩))).put (some 64) (.pointer (some ⟨pz, 0, none⟩))).put (some 65) (.int .i64 (ax : Int))).put (some 66) (.pointer (some ⟨zb, ax, none⟩))).put (some 67) (.pointer (some ⟨rz, 0, none⟩))).put (some 68) (.agg (stL 0 false 3 zK5 false).toArray)).put (some 69) (.bool true)).put (some 70) (.bool false)).put (some 71) (.bool false)).put (some 72) (.bool false)).put (some 73) (.int .i64 (ax : Int))).put (some 74) (.pointer (some ⟨za, ax, none⟩))).put (some 75) (.pointer (some ⟨pz, 0, none⟩))).put (some 76) (.int .i64 (ax : Int))).put (some 77) (.pointer (some ⟨zb, ax, none⟩))).put (some 78) (.pointer (some ⟨rz, 0, none⟩))).put (some 79) (keyV K5)).put (some 80) (.agg (stL 2 false 3 K5 false).toArray)).put (some 81) (.bool true)).put (some 82) (.bool false)).put (some 83) (.bool false)).put (some 84) (.bool false)).put (some 85) (.int .i64 (ax : Int))).put (some 86) (.pointer (some ⟨za, ax, none⟩))).put (some 87) (.pointer (some ⟨pz, 0, none⟩))).put (some 88) (.int .i64 (ax : Int))).put (some 89) (.pointer (some ⟨zb, ax, none⟩))).put (some 90) (.pointer (some ⟨rz, 0, none⟩))).put (some 91) (keyV K5)).put (some 92) (.agg (stL 6 false 3 K5 false).toArray)).put (some 93) (.bool true)).put (some 94) (.bool false)).put (some 95) (.bool false)).put (some 96) (.bool false)).put (some 97) (.int .i64 (ax : Int))).put (some 98) (.pointer (some ⟨za, ax, none⟩))).put (some 99) (.pointer (some ⟨pz, 0, none⟩))).put (some 100) (.int .i64 (ax : Int))).put (some 101) (.pointer (some ⟨zb, ax, none⟩))).put (some 102) (.pointer (some ⟨rz, 0, none⟩))).put (some 103) (keyV K5)).put (some 104) (.agg (stL 9 false 0 K5 false).toArray)).put (some 105) (.bool true)).put (some 106) (.bool false)).put (some 107) (.bool false)) w5) :
    Code.wp Try.prog (.region 22 (pm_ops s) true) Q a W := by
  refine wp_region_held_drew (S := fun w => w.cell? ⟨za, ax, none⟩ = some (.pointer (some ⟨pz, 0, none⟩)) ∧ w.cell? ⟨zb, ax, none⟩ = some (.pointer (some ⟨rz, 0, none⟩)) ∧ KeyAt w zk K5) (by kernel_rfl) hS0 (fun hS => ?_)
  change wpAnyH _ _ _ _ _ _ _ _ (World.drew _)
  refine wpAnyH_take (i := 0) (oi := pm_0 s) (v := .int .i64 (ax : Int)) (by kernel_rfl) (by kernel_rfl) (by kernel_rfl) (by kernel_rfl) (fun c a w h => hQ c _ _ _ w h) (Or.inl ⟨wanted_none rfl, fun w hw => by simp only [execOp, pm_0, e9]; rfl⟩) hS ?_
  change wpAnyH _ _ _ _ _ _ _ (a.put (some 52) (.int .i64 (ax : Int))) _
  obtain ⟨a0_1, ha1⟩ : ∃ rr : Act, rr = a.put (some 52) (.int .i64 (ax : Int)) := ⟨_, rfl⟩
  have qz1 : 107 < a0_1.tmps.size := by rw [ha1, sz_put]; exact hs
  have f1_3 : a0_1.eval (.tmp 3) = .pointer (some ⟨za, 0, none⟩) := by rw [ha1, ev_other _ _ _ _ (by decide)]; exact e3
  have f1_4 : a0_1.eval (.tmp 4) = .pointer (some ⟨zb, 0, none⟩) := by rw [ha1, ev_other _ _ _ _ (by decide)]; exact e4
  have f1_8 : a0_1.eval (.tmp 8) = .pointer (some ⟨zk, 0, none⟩) := by rw [ha1, ev_other _ _ _ _ (by decide)]; exact e8
  have f1_9 : a0_1.eval (.tmp 9) = .int .i64 (ax : Int) := by rw [ha1, ev_other _ _ _ _ (by decide)]; exact e9
  have f1_52 : a0_1.eval (.tmp 52) = .int .i64 (ax : Int) := by rw [ha1]; exact ev_same _ _ _ (Nat.lt_of_le_of_lt (by decide) hs)
  rw [← ha1] at h0 ⊢
  clear ha1
  refine wpAnyH_take (i := 1) (oi := pm_1 s) (v := .pointer (some ⟨za, ax, none⟩)) (by kernel_rfl) (by kernel_rfl) (by kernel_rfl) (by kernel_rfl) (fun c a w h => hQ c _ _ _ w h) (Or.inl ⟨wanted_none rfl, fun w hw => run_ix2p rfl f1_3 f1_52 ha w⟩) hS ?_
  change wpAnyH _ _ _ _ _ _ _ (a0_1.put (some 53) (.pointer (some ⟨za, ax, none⟩))) _
  obtain ⟨a0_2, ha2⟩ : ∃ rr : Act, rr = a0_1.put (some 53) (.pointer (some ⟨za, ax, none⟩)) := ⟨_, rfl⟩
  have qz2 : 107 < a0_2.tmps.size := by rw [ha2, sz_put]; exact qz1
  have f2_3 : a0_2.eval (.tmp 3) = .pointer (some ⟨za, 0, none⟩) := by rw [ha2, ev_other _ _ _ _ (by decide)]; exact f1_3
  have f2_4 : a0_2.eval (.tmp 4) = .pointer (some ⟨zb, 0, none⟩) := by rw [ha2, ev_other _ _ _ _ (by decide)]; exact f1_4
  have f2_8 : a0_2.eval (.tmp 8) = .pointer (some ⟨zk, 0, none⟩) := by rw [ha2, ev_other _ _ _ _ (by decide)]; exact f1_8
  have f2_9 : a0_2.eval (.tmp 9) = .int .i64 (ax : Int) := by rw [ha2, ev_other _ _ _ _ (by decide)]; exact f1_9
  have f2_53 : a0_2.eval (.tmp 53) = .pointer (some ⟨za, ax, none⟩) := by rw [ha2]; exact ev_same _ _ _ (Nat.lt_of_le_of_lt (by decide) qz1)
  rw [← ha2] at h0 ⊢
  clear ha2
  refine wpAnyH_take (i := 2) (oi := pm_2 s) (v := .pointer (some ⟨pz, 0, none⟩)) (by kernel_rfl) (by kernel_rfl) (by kernel_rfl) (by kernel_rfl) (fun c a w h => hQ c _ _ _ w h) (Or.inl ⟨wanted_none rfl, fun w hw => run_load rfl f2_53 (load_pp hw.1)⟩) hS ?_
  change wpAnyH _ _ _ _ _ _ _ (a0_2.put (some 54) (.pointer (some ⟨pz, 0, none⟩))) _
  obtain ⟨a0_3, ha3⟩ : ∃ rr : Act, rr = a0_2.put (some 54) (.pointer (some ⟨pz, 0, none⟩)) := ⟨_, rfl⟩
  have qz3 : 107 < a0_3.tmps.size := by rw [ha3, sz_put]; exact qz2
  have f3_3 : a0_3.eval (.tmp 3) = .pointer (some ⟨za, 0, none⟩) := by rw [ha3, ev_other _ _ _ _ (by decide)]; exact f2_3
  have f3_4 : a0_3.eval (.tmp 4) = .pointer (some ⟨zb, 0, none⟩) := by rw [ha3, ev_other _ _ _ _ (by decide)]; exact f2_4
  have f3_8 : a0_3.eval (.tmp 8) = .pointer (some ⟨zk, 0, none⟩) := by rw [ha3, ev_other _ _ _ _ (by decide)]; exact f2_8
  have f3_9 : a0_3.eval (.tmp 9) = .int .i64 (ax : Int) := by rw [ha3, ev_other _ _ _ _ (by decide)]; exact f2_9
  have f3_54 : a0_3.eval (.tmp 54) = .pointer (some ⟨pz, 0, none⟩) := by rw [ha3]; exact ev_same _ _ _ (Nat.lt_of_le_of_lt (by decide) qz2)
  rw [← ha3] at h0 ⊢
  clear ha3
  refine wpAnyH_take (i := 3) (oi := pm_3 s) (v := .int .i64 (ax : Int)) (by kernel_rfl) (by kernel_rfl) (by kernel_rfl) (by kernel_rfl) (fun c a w h => hQ c _ _ _ w h) (Or.inl ⟨wanted_none rfl, fun w hw => by simp only [execOp, pm_3, f3_9]; rfl⟩) hS ?_
  change wpAnyH _ _ _ _ _ _ _ (a0_3.put (some 55) (.int .i64 (ax : Int))) _
  obtain ⟨a0_4, ha4⟩ : ∃ rr : Act, rr = a0_3.put (some 55) (.int .i64 (ax : Int)) := ⟨_, rfl⟩
  have qz4 : 107 < a0_4.tmps.size := by rw [ha4, sz_put]; exact qz3
  have f4_3 : a0_4.eval (.tmp 3) = .pointer (some ⟨za, 0, none⟩) := by rw [ha4, ev_other _ _ _ _ (by decide)]; exact f3_3
  have f4_4 : a0_4.eval (.tmp 4) = .pointer (some ⟨zb, 0, none⟩) := by rw [ha4, ev_other _ _ _ _ (by decide)]; exact f3_4
  have f4_8 : a0_4.eval (.tmp 8) = .pointer (some ⟨zk, 0, none⟩) := by rw [ha4, ev_other _ _ _ _ (by decide)]; exact f3_8
  have f4_9 : a0_4.eval (.tmp 9) = .int .i64 (ax : Int) := by rw [ha4, ev_other _ _ _ _ (by decide)]; exact f3_9
  have f4_54 : a0_4.eval (.tmp 54) = .pointer (some ⟨pz, 0, none⟩) := by rw [ha4, ev_other _ _ _ _ (by decide)]; exact f3_54
  have f4_55 : a0_4.eval (.tmp 55) = .int .i64 (ax : Int) := by rw [ha4]; exact ev_same _ _ _ (Nat.lt_of_le_of_lt (by decide) qz3)
  rw [← ha4] at h0 ⊢
  clear ha4
  refine wpAnyH_take (i := 4) (oi := pm_4 s) (v := .pointer (some ⟨zb, ax, none⟩)) (by kernel_rfl) (by kernel_rfl) (by kernel_rfl) (by kernel_rfl) (fun c a w h => hQ c _ _ _ w h) (Or.inl ⟨wanted_none rfl, fun w hw => run_ix2r rfl f4_4 f4_55 ha w⟩) hS ?_
  change wpAnyH _ _ _ _ _ _ _ (a0_4.put (some 56) (.pointer (some ⟨zb, ax, none⟩))) _
  obtain ⟨a0_5, ha5⟩ : ∃ rr : Act, rr = a0_4.put (some 56) (.pointer (some ⟨zb, ax, none⟩)) := ⟨_, rfl⟩
  have qz5 : 107 < a0_5.tmps.size := by rw [ha5, sz_put]; exact qz4
  have f5_3 : a0_5.eval (.tmp 3) = .pointer (some ⟨za, 0, none⟩) := by rw [ha5, ev_other _ _ _ _ (by decide)]; exact f4_3
  have f5_4 : a0_5.eval (.tmp 4) = .pointer (some ⟨zb, 0, none⟩) := by rw [ha5, ev_other _ _ _ _ (by decide)]; exact f4_4
  have f5_8 : a0_5.eval (.tmp 8) = .pointer (some ⟨zk, 0, none⟩) := by rw [ha5, ev_other _ _ _ _ (by decide)]; exact f4_8
  have f5_9 : a0_5.eval (.tmp 9) = .int .i64 (ax : Int) := by rw [ha5, ev_other _ _ _ _ (by decide)]; exact f4_9
  have f5_54 : a0_5.eval (.tmp 54) = .pointer (some ⟨pz, 0, none⟩) := by rw [ha5, ev_other _ _ _ _ (by decide)]; exact f4_54
  have f5_56 : a0_5.eval (.tmp 56) = .pointer (some ⟨zb, ax, none⟩) := by rw [ha5]; exact ev_same _ _ _ (Nat.lt_of_le_of_lt (by decide) qz4)
  rw [← ha5] at h0 ⊢
  clear ha5
  refine wpAnyH_take (i := 5) (oi := pm_5 s) (v := .pointer (some ⟨rz, 0, none⟩)) (by kernel_rfl) (by kernel_rfl) (by kernel_rfl) (by kernel_rfl) (fun c a w h => hQ c _ _ _ w h) (Or.inl ⟨wanted_none rfl, fun w hw => run_load rfl f5_56 (load_pr hw.2.1)⟩) hS ?_
  change wpAnyH _ _ _ _ _ _ _ (a0_5.put (some 57) (.pointer (some ⟨rz, 0, none⟩))) _
  obtain ⟨a0_6, ha6⟩ : ∃ rr : Act, rr = a0_5.put (some 57) (.pointer (some ⟨rz, 0, none⟩)) := ⟨_, rfl⟩
  have qz6 : 107 < a0_6.tmps.size := by rw [ha6, sz_put]; exact qz5
  have f6_3 : a0_6.eval (.tmp 3) = .pointer (some ⟨za, 0, none⟩) := by rw [ha6, ev_other _ _ _ _ (by decide)]; exact f5_3
  have f6_4 : a0_6.eval (.tmp 4) = .pointer (some ⟨zb, 0, none⟩) := by rw [ha6, ev_other _ _ _ _ (by decide)]; exact f5_4
  have f6_8 : a0_6.eval (.tmp 8) = .pointer (some ⟨zk, 0, none⟩) := by rw [ha6, ev_other _ _ _ _ (by decide)]; exact f5_8
  have f6_9 : a0_6.eval (.tmp 9) = .int .i64 (ax : Int) := by rw [ha6, ev_other _ _ _ _ (by decide)]; exact f5_9
  have f6_54 : a0_6.eval (.tmp 54) = .pointer (some ⟨pz, 0, none⟩) := by rw [ha6, ev_other _ _ _ _ (by decide)]; exact f5_54
  have f6_57 : a0_6.eval (.tmp 57) = .pointer (some ⟨rz, 0, none⟩) := by rw [ha6]; exact ev_same _ _ _ (Nat.lt_of_le_of_lt (by decide) qz5)
  rw [← ha6] at h0 ⊢
  clear ha6
  refine wpAnyH_take (i := 6) (oi := pm_6 s) (v := .agg (stL 10 false 0 zK5 false).toArray) (by kernel_rfl) (by kernel_rfl) (by kernel_rfl) (by kernel_rfl) (fun c a w h => hQ c _ _ _ w h) (Or.inl ⟨wanted_none rfl, fun w hw => bl0 s w⟩) hS ?_
  change wpAnyH _ _ _ _ _ _ _ (a0_6.put (some 58) (.agg (stL 10 false 0 zK5 false).toArray)) _
  obtain ⟨a0_7, ha7⟩ : ∃ rr : Act, rr = a0_6.put (some 58) (.agg (stL 10 false 0 zK5 false).toArray) := ⟨_, rfl⟩
  have qz7 : 107 < a0_7.tmps.size := by rw [ha7, sz_put]; exact qz6
  have f7_3 : a0_7.eval (.tmp 3) = .pointer (some ⟨za, 0, none⟩) := by rw [ha7, ev_other _ _ _ _ (by decide)]; exact f6_3
  have f7_4 : a0_7.eval (.tmp 4) = .pointer (some ⟨zb, 0, none⟩) := by rw [ha7, ev_other _ _ _ _ (by decide)]; exact f6_4
  have f7_8 : a0_7.eval (.tmp 8) = .pointer (some ⟨zk, 0, none⟩) := by rw [ha7, ev_other _ _ _ _ (by decide)]; exact f6_8
  have f7_9 : a0_7.eval (.tmp 9) = .int .i64 (ax : Int) := by rw [ha7, ev_other _ _ _ _ (by decide)]; exact f6_9
  have f7_54 : a0_7.eval (.tmp 54) = .pointer (some ⟨pz, 0, none⟩) := by rw [ha7, ev_other _ _ _ _ (by decide)]; exact f6_54
  have f7_57 : a0_7.eval (.tmp 57) = .pointer (some ⟨rz, 0, none⟩) := by rw [ha7, ev_other _ _ _ _ (by decide)]; exact f6_57
  have f7_58 : a0_7.eval (.tmp 58) = .agg (stL 10 false 0 zK5 false).toArray := by rw [ha7]; exact ev_same _ _ _ (Nat.lt_of_le_of_lt (by decide) qz6)
  rw [← ha7] at h0 ⊢
  clear ha7
  refine wpAnyH_ready (rs := [7]) (by kernel_rfl) (by simp) ?_
  refine AllReadyH.cons (o := pm_7 s) (by kernel_rfl) (fun KQ hKQ => ?_) AllReadyH.nil
  rw [if_pos (wanted_none rfl)]
  refine step_enterE 7 #[.pointer (some ⟨pz, 0, none⟩), .pointer (some ⟨rz, 0, none⟩), .agg (stL 10 false 0 zK5 false).toArray] (by rw [pm_enter7, f7_54, f7_57, f7_58]) (fun V w' => V = .bool true ∧ M1 w') ((hc1).mono (fun e w' h => ⟨_, h.1, rfl, h.2⟩)) ?_
  rintro _ w1 ⟨rfl, hM1⟩
  refine hKQ.out _ _ (hk1 w1 hM1) (fun _ => ?_)
  clear hKQ KQ
  change wpAnyH _ _ _ _ _ _ _ (a0_7.put (some 59) (.bool true)) _
  obtain ⟨a0_8, ha8⟩ : ∃ rr : Act, rr = a0_7.put (some 59) (.bool true) := ⟨_, rfl⟩
  have qz8 : 107 < a0_8.tmps.size := by rw [ha8, sz_put]; exact qz7
  have f8_3 : a0_8.eval (.tmp 3) = .pointer (some ⟨za, 0, none⟩) := by rw [ha8, ev_other _ _ _ _ (by decide)]; exact f7_3
  have f8_4 : a0_8.eval (.tmp 4) = .pointer (some ⟨zb, 0, none⟩) := by rw [ha8, ev_other _ _ _ _ (by decide)]; exact f7_4
  have f8_8 : a0_8.eval (.tmp 8) = .pointer (some ⟨zk, 0, none⟩) := by rw [ha8, ev_other _ _ _ _ (by decide)]; exact f7_8
  have f8_9 : a0_8.eval (.tmp 9) = .int .i64 (ax : Int) := by rw [ha8, ev_other _ _ _ _ (by decide)]; exact f7_9
  have f8_59 : a0_8.eval (.tmp 59) = .bool true := by rw [ha8]; exact ev_same _ _ _ (Nat.lt_of_le_of_lt (by decide) qz7)
  rw [← ha8] at h0 ⊢
  clear ha8
  refine wpAnyH_take (i := 8) (oi := pm_8 s) (v := .bool false) (by kernel_rfl) (by kernel_rfl) (by kernel_rfl) (by kernel_rfl) (fun c a w h => hQ c _ _ _ w h) (Or.inl ⟨wanted_none rfl, fun w hw => run_notT rfl f8_59 w⟩) (hk1 w1 hM1) ?_
  change wpAnyH _ _ _ _ _ _ _ (a0_8.put (some 60) (.bool false)) _
  obtain ⟨a0_9, ha9⟩ : ∃ rr : Act, rr = a0_8.put (some 60) (.bool false) := ⟨_, rfl⟩
  have qz9 : 107 < a0_9.tmps.size := by rw [ha9, sz_put]; exact qz8
  have f9_3 : a0_9.eval (.tmp 3) = .pointer (some ⟨za, 0, none⟩) := by rw [ha9, ev_other _ _ _ _ (by decide)]; exact f8_3
  have f9_4 : a0_9.eval (.tmp 4) = .pointer (some ⟨zb, 0, none⟩) := by rw [ha9, ev_other _ _ _ _ (by decide)]; exact f8_4
  have f9_8 : a0_9.eval (.tmp 8) = .pointer (some ⟨zk, 0, none⟩) := by rw [ha9, ev_other _ _ _ _ (by decide)]; exact f8_8
  have f9_9 : a0_9.eval (.tmp 9) = .int .i64 (ax : Int) := by rw [ha9, ev_other _ _ _ _ (by decide)]; exact f8_9
  have f9_60 : a0_9.eval (.tmp 60) = .bool false := by rw [ha9]; exact ev_same _ _ _ (Nat.lt_of_le_of_lt (by decide) qz8)
  rw [← ha9] at h0 ⊢
  clear ha9
  refine wpAnyH_take (i := 9) (oi := pm_9 s) (v := .bool false) (by kernel_rfl) (by kernel_rfl) (by kernel_rfl) (by kernel_rfl) (fun c a w h => hQ c _ _ _ w h) (Or.inl ⟨wanted_none rfl, fun w hw => by simp only [execOp, pm_9, f9_60]; rfl⟩) (hk1 w1 hM1) ?_
  change wpAnyH _ _ _ _ _ _ _ (a0_9.put (some 61) (.bool false)) _
  obtain ⟨a0_10, ha10⟩ : ∃ rr : Act, rr = a0_9.put (some 61) (.bool false) := ⟨_, rfl⟩
  have qz10 : 107 < a0_10.tmps.size := by rw [ha10, sz_put]; exact qz9
  have f10_3 : a0_10.eval (.tmp 3) = .pointer (some ⟨za, 0, none⟩) := by rw [ha10, ev_other _ _ _ _ (by decide)]; exact f9_3
  have f10_4 : a0_10.eval (.tmp 4) = .pointer (some ⟨zb, 0, none⟩) := by rw [ha10, ev_other _ _ _ _ (by decide)]; exact f9_4
  have f10_8 : a0_10.eval (.tmp 8) = .pointer (some ⟨zk, 0, none⟩) := by rw [ha10, ev_other _ _ _ _ (by decide)]; exact f9_8
  have f10_9 : a0_10.eval (.tmp 9) = .int .i64 (ax : Int) := by rw [ha10, ev_other _ _ _ _ (by decide)]; exact f9_9
  have f10_61 : a0_10.eval (.tmp 61) = .bool false := by rw [ha10]; exact ev_same _ _ _ (Nat.lt_of_le_of_lt (by decide) qz9)
  rw [← ha10] at h0 ⊢
  clear ha10
  refine wpAnyH_take (i := 10) (oi := pm_10 s) (v := .int .i64 (ax : Int)) (by kernel_rfl) (by kernel_rfl) (by kernel_rfl) (by kernel_rfl) (fun c a w h => hQ c _ _ _ w h) (Or.inl ⟨wanted_some rfl (by kernel_rfl) f10_61 (Nat.lt_of_le_of_lt (by decide) qz10), fun w hw => by simp only [execOp, pm_10, f10_9]; rfl⟩) (hk1 w1 hM1) ?_
  change wpAnyH _ _ _ _ _ _ _ (a0_10.put (some 62) (.int .i64 (ax : Int))) _
  obtain ⟨a0_11, ha11⟩ : ∃ rr : Act, rr = a0_10.put (some 62) (.int .i64 (ax : Int)) := ⟨_, rfl⟩
  have qz11 : 107 < a0_11.tmps.size := by rw [ha11, sz_put]; exact qz10
  have f11_3 : a0_11.eval (.tmp 3) = .pointer (some ⟨za, 0, none⟩) := by rw [ha11, ev_other _ _ _ _ (by decide)]; exact f10_3
  have f11_4 : a0_11.eval (.tmp 4) = .pointer (some ⟨zb, 0, none⟩) := by rw [ha11, ev_other _ _ _ _ (by decide)]; exact f10_4
  have f11_8 : a0_11.eval (.tmp 8) = .pointer (some ⟨zk, 0, none⟩) := by rw [ha11, ev_other _ _ _ _ (by decide)]; exact f10_8
  have f11_9 : a0_11.eval (.tmp 9) = .int .i64 (ax : Int) := by rw [ha11, ev_other _ _ _ _ (by decide)]; exact f10_9
  have f11_61 : a0_11.eval (.tmp 61) = .bool false := by rw [ha11, ev_other _ _ _ _ (by decide)]; exact f10_61
  have f11_62 : a0_11.eval (.tmp 62) = .int .i64 (ax : Int) := by rw [ha11]; exact ev_same _ _ _ (Nat.lt_of_le_of_lt (by decide) qz10)
  rw [← ha11] at h0 ⊢
  clear ha11
  refine wpAnyH_take (i := 11) (oi := pm_11 s) (v := .pointer (some ⟨za, ax, none⟩)) (by kernel_rfl) (by kernel_rfl) (by kernel_rfl) (by kernel_rfl) (fun c a w h => hQ c _ _ _ w h) (Or.inl ⟨wanted_some rfl (by kernel_rfl) f11_61 (Nat.lt_of_le_of_lt (by decide) qz11), fun w hw => run_ix2p rfl f11_3 f11_62 ha w⟩) (hk1 w1 hM1) ?_
  change wpAnyH _ _ _ _ _ _ _ (a0_11.put (some 63) (.pointer (some ⟨za, ax, none⟩))) _
  obtain ⟨a0_12, ha12⟩ : ∃ rr : Act, rr = a0_11.put (some 63) (.pointer (some ⟨za, ax, none⟩)) := ⟨_, rfl⟩
  have qz12 : 107 < a0_12.tmps.size := by rw [ha12, sz_put]; exact qz11
  have f12_3 : a0_12.eval (.tmp 3) = .pointer (some ⟨za, 0, none⟩) := by rw [ha12, ev_other _ _ _ _ (by decide)]; exact f11_3
  have f12_4 : a0_12.eval (.tmp 4) = .pointer (some ⟨zb, 0, none⟩) := by rw [ha12, ev_other _ _ _ _ (by decide)]; exact f11_4
  have f12_8 : a0_12.eval (.tmp 8) = .pointer (some ⟨zk, 0, none⟩) := by rw [ha12, ev_other _ _ _ _ (by decide)]; exact f11_8
  have f12_9 : a0_12.eval (.tmp 9) = .int .i64 (ax : Int) := by rw [ha12, ev_other _ _ _ _ (by decide)]; exact f11_9
  have f12_61 : a0_12.eval (.tmp 61) = .bool false := by rw [ha12, ev_other _ _ _ _ (by decide)]; exact f11_61
  have f12_63 : a0_12.eval (.tmp 63) = .pointer (some ⟨za, ax, none⟩) := by rw [ha12]; exact ev_same _ _ _ (Nat.lt_of_le_of_lt (by decide) qz11)
  rw [← ha12] at h0 ⊢
  clear ha12
  refine wpAnyH_take (i := 12) (oi := pm_12 s) (v := .pointer (some ⟨pz, 0, none⟩)) (by kernel_rfl) (by kernel_rfl) (by kernel_rfl) (by kernel_rfl) (fun c a w h => hQ c _ _ _ w h) (Or.inl ⟨wanted_some rfl (by kernel_rfl) f12_61 (Nat.lt_of_le_of_lt (by decide) qz12), fun w hw => run_load rfl f12_63 (load_pp hw.1)⟩) (hk1 w1 hM1) ?_
  change wpAnyH _ _ _ _ _ _ _ (a0_12.put (some 64) (.pointer (some ⟨pz, 0, none⟩))) _
  obtain ⟨a0_13, ha13⟩ : ∃ rr : Act, rr = a0_12.put (some 64) (.pointer (some ⟨pz, 0, none⟩)) := ⟨_, rfl⟩
  have qz13 : 107 < a0_13.tmps.size := by rw [ha13, sz_put]; exact qz12
  have f13_3 : a0_13.eval (.tmp 3) = .pointer (some ⟨za, 0, none⟩) := by rw [ha13, ev_other _ _ _ _ (by decide)]; exact f12_3
  have f13_4 : a0_13.eval (.tmp 4) = .pointer (some ⟨zb, 0, none⟩) := by rw [ha13, ev_other _ _ _ _ (by decide)]; exact f12_4
  have f13_8 : a0_13.eval (.tmp 8) = .pointer (some ⟨zk, 0, none⟩) := by rw [ha13, ev_other _ _ _ _ (by decide)]; exact f12_8
  have f13_9 : a0_13.eval (.tmp 9) = .int .i64 (ax : Int) := by rw [ha13, ev_other _ _ _ _ (by decide)]; exact f12_9
  have f13_61 : a0_13.eval (.tmp 61) = .bool false := by rw [ha13, ev_other _ _ _ _ (by decide)]; exact f12_61
  have f13_64 : a0_13.eval (.tmp 64) = .pointer (some ⟨pz, 0, none⟩) := by rw [ha13]; exact ev_same _ _ _ (Nat.lt_of_le_of_lt (by decide) qz12)
  rw [← ha13] at h0 ⊢
  clear ha13
  refine wpAnyH_take (i := 13) (oi := pm_13 s) (v := .int .i64 (ax : Int)) (by kernel_rfl) (by kernel_rfl) (by kernel_rfl) (by kernel_rfl) (fun c a w h => hQ c _ _ _ w h) (Or.inl ⟨wanted_some rfl (by kernel_rfl) f13_61 (Nat.lt_of_le_of_lt (by decide) qz13), fun w hw => by simp only [execOp, pm_13, f13_9]; rfl⟩) (hk1 w1 hM1) ?_
  change wpAnyH _ _ _ _ _ _ _ (a0_13.put (some 65) (.int .i64 (ax : Int))) _
  obtain ⟨a0_14, ha14⟩ : ∃ rr : Act, rr = a0_13.put (some 65) (.int .i64 (ax : Int)) := ⟨_, rfl⟩
  have qz14 : 107 < a0_14.tmps.size := by rw [ha14, sz_put]; exact qz13
  have f14_3 : a0_14.eval (.tmp 3) = .pointer (some ⟨za, 0, none⟩) := by rw [ha14, ev_other _ _ _ _ (by decide)]; exact f13_3
  have f14_4 : a0_14.eval (.tmp 4) = .pointer (some ⟨zb, 0, none⟩) := by rw [ha14, ev_other _ _ _ _ (by decide)]; exact f13_4
  have f14_8 : a0_14.eval (.tmp 8) = .pointer (some ⟨zk, 0, none⟩) := by rw [ha14, ev_other _ _ _ _ (by decide)]; exact f13_8
  have f14_9 : a0_14.eval (.tmp 9) = .int .i64 (ax : Int) := by rw [ha14, ev_other _ _ _ _ (by decide)]; exact f13_9
  have f14_61 : a0_14.eval (.tmp 61) = .bool false := by rw [ha14, ev_other _ _ _ _ (by decide)]; exact f13_61
  have f14_64 : a0_14.eval (.tmp 64) = .pointer (some ⟨pz, 0, none⟩) := by rw [ha14, ev_other _ _ _ _ (by decide)]; exact f13_64
  have f14_65 : a0_14.eval (.tmp 65) = .int .i64 (ax : Int) := by rw [ha14]; exact ev_same _ _ _ (Nat.lt_of_le_of_lt (by decide) qz13)
  rw [← ha14] at h0 ⊢
  clear ha14
  refine wpAnyH_take (i := 14) (oi := pm_14 s) (v := .pointer (some ⟨zb, ax, none⟩)) (by kernel_rfl) (by kernel_rfl) (by kernel_rfl) (by kernel_rfl) (fun c a w h => hQ c _ _ _ w h) (Or.inl ⟨wanted_some rfl (by kernel_rfl) f14_61 (Nat.lt_of_le_of_lt (by decide) qz14), fun w hw => run_ix2r rfl f14_4 f14_65 ha w⟩) (hk1 w1 hM1) ?_
  change wpAnyH _ _ _ _ _ _ _ (a0_14.put (some 66) (.pointer (some ⟨zb, ax, none⟩))) _
  obtain ⟨a0_15, ha15⟩ : ∃ rr : Act, rr = a0_14.put (some 66) (.pointer (some ⟨zb, ax, none⟩)) := ⟨_, rfl⟩
  have qz15 : 107 < a0_15.tmps.size := by rw [ha15, sz_put]; exact qz14
  have f15_3 : a0_15.eval (.tmp 3) = .pointer (some ⟨za, 0, none⟩) := by rw [ha15, ev_other _ _ _ _ (by decide)]; exact f14_3
  have f15_4 : a0_15.eval (.tmp 4) = .pointer (some ⟨zb, 0, none⟩) := by rw [ha15, ev_other _ _ _ _ (by decide)]; exact f14_4
  have f15_8 : a0_15.eval (.tmp 8) = .pointer (some ⟨zk, 0, none⟩) := by rw [ha15, ev_other _ _ _ _ (by decide)]; exact f14_8
  have f15_9 : a0_15.eval (.tmp 9) = .int .i64 (ax : Int) := by rw [ha15, ev_other _ _ _ _ (by decide)]; exact f14_9
  have f15_61 : a0_15.eval (.tmp 61) = .bool false := by rw [ha15, ev_other _ _ _ _ (by decide)]; exact f14_61
  have f15_64 : a0_15.eval (.tmp 64) = .pointer (some ⟨pz, 0, none⟩) := by rw [ha15, ev_other _ _ _ _ (by decide)]; exact f14_64
  have f15_66 : a0_15.eval (.tmp 66) = .pointer (some ⟨zb, ax, none⟩) := by rw [ha15]; exact ev_same _ _ _ (Nat.lt_of_le_of_lt (by decide) qz14)
  rw [← ha15] at h0 ⊢
  clear ha15
  refine wpAnyH_take (i := 15) (oi := pm_15 s) (v := .pointer (some ⟨rz, 0, none⟩)) (by kernel_rfl) (by kernel_rfl) (by kernel_rfl) (by kernel_rfl) (fun c a w h => hQ c _ _ _ w h) (Or.inl ⟨wanted_some rfl (by kernel_rfl) f15_61 (Nat.lt_of_le_of_lt (by decide) qz15), fun w hw => run_load rfl f15_66 (load_pr hw.2.1)⟩) (hk1 w1 hM1) ?_
  change wpAnyH _ _ _ _ _ _ _ (a0_15.put (some 67) (.pointer (some ⟨rz, 0, none⟩))) _
  obtain ⟨a0_16, ha16⟩ : ∃ rr : Act, rr = a0_15.put (some 67) (.pointer (some ⟨rz, 0, none⟩)) := ⟨_, rfl⟩
  have qz16 : 107 < a0_16.tmps.size := by rw [ha16, sz_put]; exact qz15
  have f16_3 : a0_16.eval (.tmp 3) = .pointer (some ⟨za, 0, none⟩) := by rw [ha16, ev_other _ _ _ _ (by decide)]; exact f15_3
  have f16_4 : a0_16.eval (.tmp 4) = .pointer (some ⟨zb, 0, none⟩) := by rw [ha16, ev_other _ _ _ _ (by decide)]; exact f15_4
  have f16_8 : a0_16.eval (.tmp 8) = .pointer (some ⟨zk, 0, none⟩) := by rw [ha16, ev_other _ _ _ _ (by decide)]; exact f15_8
  have f16_9 : a0_16.eval (.tmp 9) = .int .i64 (ax : Int) := by rw [ha16, ev_other _ _ _ _ (by decide)]; exact f15_9
  have f16_61 : a0_16.eval (.tmp 61) = .bool false := by rw [ha16, ev_other _ _ _ _ (by decide)]; exact f15_61
  have f16_64 : a0_16.eval (.tmp 64) = .pointer (some ⟨pz, 0, none⟩) := by rw [ha16, ev_other _ _ _ _ (by decide)]; exact f15_64
  have f16_67 : a0_16.eval (.tmp 67) = .pointer (some ⟨rz, 0, none⟩) := by rw [ha16]; exact ev_same _ _ _ (Nat.lt_of_le_of_lt (by decide) qz15)
  rw [← ha16] at h0 ⊢
  clear ha16
  refine wpAnyH_take (i := 16) (oi := pm_16 s) (v := .agg (stL 0 false 3 zK5 false).toArray) (by kernel_rfl) (by kernel_rfl) (by kernel_rfl) (by kernel_rfl) (fun c a w h => hQ c _ _ _ w h) (Or.inl ⟨wanted_some rfl (by kernel_rfl) f16_61 (Nat.lt_of_le_of_lt (by decide) qz16), fun w hw => bl1 s w⟩) (hk1 w1 hM1) ?_
  change wpAnyH _ _ _ _ _ _ _ (a0_16.put (some 68) (.agg (stL 0 false 3 zK5 false).toArray)) _
  obtain ⟨a0_17, ha17⟩ : ∃ rr : Act, rr = a0_16.put (some 68) (.agg (stL 0 false 3 zK5 false).toArray) := ⟨_, rfl⟩
  have qz17 : 107 < a0_17.tmps.size := by rw [ha17, sz_put]; exact qz16
  have f17_3 : a0_17.eval (.tmp 3) = .pointer (some ⟨za, 0, none⟩) := by rw [ha17, ev_other _ _ _ _ (by decide)]; exact f16_3
  have f17_4 : a0_17.eval (.tmp 4) = .pointer (some ⟨zb, 0, none⟩) := by rw [ha17, ev_other _ _ _ _ (by decide)]; exact f16_4
  have f17_8 : a0_17.eval (.tmp 8) = .pointer (some ⟨zk, 0, none⟩) := by rw [ha17, ev_other _ _ _ _ (by decide)]; exact f16_8
  have f17_9 : a0_17.eval (.tmp 9) = .int .i64 (ax : Int) := by rw [ha17, ev_other _ _ _ _ (by decide)]; exact f16_9
  have f17_61 : a0_17.eval (.tmp 61) = .bool false := by rw [ha17, ev_other _ _ _ _ (by decide)]; exact f16_61
  have f17_64 : a0_17.eval (.tmp 64) = .pointer (some ⟨pz, 0, none⟩) := by rw [ha17, ev_other _ _ _ _ (by decide)]; exact f16_64
  have f17_67 : a0_17.eval (.tmp 67) = .pointer (some ⟨rz, 0, none⟩) := by rw [ha17, ev_other _ _ _ _ (by decide)]; exact f16_67
  have f17_68 : a0_17.eval (.tmp 68) = .agg (stL 0 false 3 zK5 false).toArray := by rw [ha17]; exact ev_same _ _ _ (Nat.lt_of_le_of_lt (by decide) qz16)
  rw [← ha17] at h0 ⊢
  clear ha17
  refine wpAnyH_ready (rs := [17]) (by kernel_rfl) (by simp) ?_
  refine AllReadyH.cons (o := pm_17 s) (by kernel_rfl) (fun KQ hKQ => ?_) AllReadyH.nil
  rw [if_pos (wanted_some rfl (by kernel_rfl) f17_61 (Nat.lt_of_le_of_lt (by decide) qz17))]
  refine step_enterE 7 #[.pointer (some ⟨pz, 0, none⟩), .pointer (some ⟨rz, 0, none⟩), .agg (stL 0 false 3 zK5 false).toArray] (by rw [pm_enter17, f17_64, f17_67, f17_68]) (fun V w' => V = .bool true ∧ M2 w') ((hc2 w1 hM1).mono (fun e w' h => ⟨_, h.1, rfl, h.2⟩)) ?_
  rintro _ w2 ⟨rfl, hM2⟩
  refine hKQ.out _ _ (hk2 w2 hM2) (fun _ => ?_)
  clear hKQ KQ
  change wpAnyH _ _ _ _ _ _ _ (a0_17.put (some 69) (.bool true)) _
  obtain ⟨a0_18, ha18⟩ : ∃ rr : Act, rr = a0_17.put (some 69) (.bool true) := ⟨_, rfl⟩
  have qz18 : 107 < a0_18.tmps.size := by rw [ha18, sz_put]; exact qz17
  have f18_3 : a0_18.eval (.tmp 3) = .pointer (some ⟨za, 0, none⟩) := by rw [ha18, ev_other _ _ _ _ (by decide)]; exact f17_3
  have f18_4 : a0_18.eval (.tmp 4) = .pointer (some ⟨zb, 0, none⟩) := by rw [ha18, ev_other _ _ _ _ (by decide)]; exact f17_4
  have f18_8 : a0_18.eval (.tmp 8) = .pointer (some ⟨zk, 0, none⟩) := by rw [ha18, ev_other _ _ _ _ (by decide)]; exact f17_8
  have f18_9 : a0_18.eval (.tmp 9) = .int .i64 (ax : Int) := by rw [ha18, ev_other _ _ _ _ (by decide)]; exact f17_9
  have f18_61 : a0_18.eval (.tmp 61) = .bool false := by rw [ha18, ev_other _ _ _ _ (by decide)]; exact f17_61
  have f18_69 : a0_18.eval (.tmp 69) = .bool true := by rw [ha18]; exact ev_same _ _ _ (Nat.lt_of_le_of_lt (by decide) qz17)
  rw [← ha18] at h0 ⊢
  clear ha18
  refine wpAnyH_take (i := 18) (oi := pm_18 s) (v := .bool false) (by kernel_rfl) (by kernel_rfl) (by kernel_rfl) (by kernel_rfl) (fun c a w h => hQ c _ _ _ w h) (Or.inl ⟨wanted_some rfl (by kernel_rfl) f18_61 (Nat.lt_of_le_of_lt (by decide) qz18), fun w hw => run_notT rfl f18_69 w⟩) (hk2 w2 hM2) ?_
  change wpAnyH _ _ _ _ _ _ _ (a0_18.put (some 70) (.bool false)) _
  obtain ⟨a0_19, ha19⟩ : ∃ rr : Act, rr = a0_18.put (some 70) (.bool false) := ⟨_, rfl⟩
  have qz19 : 107 < a0_19.tmps.size := by rw [ha19, sz_put]; exact qz18
  have f19_3 : a0_19.eval (.tmp 3) = .pointer (some ⟨za, 0, none⟩) := by rw [ha19, ev_other _ _ _ _ (by decide)]; exact f18_3
  have f19_4 : a0_19.eval (.tmp 4) = .pointer (some ⟨zb, 0, none⟩) := by rw [ha19, ev_other _ _ _ _ (by decide)]; exact f18_4
  have f19_8 : a0_19.eval (.tmp 8) = .pointer (some ⟨zk, 0, none⟩) := by rw [ha19, ev_other _ _ _ _ (by decide)]; exact f18_8
  have f19_9 : a0_19.eval (.tmp 9) = .int .i64 (ax : Int) := by rw [ha19, ev_other _ _ _ _ (by decide)]; exact f18_9
  have f19_61 : a0_19.eval (.tmp 61) = .bool false := by rw [ha19, ev_other _ _ _ _ (by decide)]; exact f18_61
  have f19_70 : a0_19.eval (.tmp 70) = .bool false := by rw [ha19]; exact ev_same _ _ _ (Nat.lt_of_le_of_lt (by decide) qz18)
  rw [← ha19] at h0 ⊢
  clear ha19
  refine wpAnyH_take (i := 19) (oi := pm_19 s) (v := .bool false) (by kernel_rfl) (by kernel_rfl) (by kernel_rfl) (by kernel_rfl) (fun c a w h => hQ c _ _ _ w h) (Or.inl ⟨wanted_none rfl, fun w hw => run_pickF rfl f19_61 f19_70 w⟩) (hk2 w2 hM2) ?_
  change wpAnyH _ _ _ _ _ _ _ (a0_19.put (some 71) (.bool false)) _
  obtain ⟨a0_20, ha20⟩ : ∃ rr : Act, rr = a0_19.put (some 71) (.bool false) := ⟨_, rfl⟩
  have qz20 : 107 < a0_20.tmps.size := by rw [ha20, sz_put]; exact qz19
  have f20_3 : a0_20.eval (.tmp 3) = .pointer (some ⟨za, 0, none⟩) := by rw [ha20, ev_other _ _ _ _ (by decide)]; exact f19_3
  have f20_4 : a0_20.eval (.tmp 4) = .pointer (some ⟨zb, 0, none⟩) := by rw [ha20, ev_other _ _ _ _ (by decide)]; exact f19_4
  have f20_8 : a0_20.eval (.tmp 8) = .pointer (some ⟨zk, 0, none⟩) := by rw [ha20, ev_other _ _ _ _ (by decide)]; exact f19_8
  have f20_9 : a0_20.eval (.tmp 9) = .int .i64 (ax : Int) := by rw [ha20, ev_other _ _ _ _ (by decide)]; exact f19_9
  have f20_71 : a0_20.eval (.tmp 71) = .bool false := by rw [ha20]; exact ev_same _ _ _ (Nat.lt_of_le_of_lt (by decide) qz19)
  rw [← ha20] at h0 ⊢
  clear ha20
  refine wpAnyH_take (i := 20) (oi := pm_20 s) (v := .bool false) (by kernel_rfl) (by kernel_rfl) (by kernel_rfl) (by kernel_rfl) (fun c a w h => hQ c _ _ _ w h) (Or.inl ⟨wanted_none rfl, fun w hw => by simp only [execOp, pm_20, f20_71]; rfl⟩) (hk2 w2 hM2) ?_
  change wpAnyH _ _ _ _ _ _ _ (a0_20.put (some 72) (.bool false)) _
  obtain ⟨a0_21, ha21⟩ : ∃ rr : Act, rr = a0_20.put (some 72) (.bool false) := ⟨_, rfl⟩
  have qz21 : 107 < a0_21.tmps.size := by rw [ha21, sz_put]; exact qz20
  have f21_3 : a0_21.eval (.tmp 3) = .pointer (some ⟨za, 0, none⟩) := by rw [ha21, ev_other _ _ _ _ (by decide)]; exact f20_3
  have f21_4 : a0_21.eval (.tmp 4) = .pointer (some ⟨zb, 0, none⟩) := by rw [ha21, ev_other _ _ _ _ (by decide)]; exact f20_4
  have f21_8 : a0_21.eval (.tmp 8) = .pointer (some ⟨zk, 0, none⟩) := by rw [ha21, ev_other _ _ _ _ (by decide)]; exact f20_8
  have f21_9 : a0_21.eval (.tmp 9) = .int .i64 (ax : Int) := by rw [ha21, ev_other _ _ _ _ (by decide)]; exact f20_9
  have f21_72 : a0_21.eval (.tmp 72) = .bool false := by rw [ha21]; exact ev_same _ _ _ (Nat.lt_of_le_of_lt (by decide) qz20)
  rw [← ha21] at h0 ⊢
  clear ha21
  refine wpAnyH_take (i := 21) (oi := pm_21 s) (v := .int .i64 (ax : Int)) (by kernel_rfl) (by kernel_rfl) (by kernel_rfl) (by kernel_rfl) (fun c a w h => hQ c _ _ _ w h) (Or.inl ⟨wanted_some rfl (by kernel_rfl) f21_72 (Nat.lt_of_le_of_lt (by decide) qz21), fun w hw => by simp only [execOp, pm_21, f21_9]; rfl⟩) (hk2 w2 hM2) ?_
  change wpAnyH _ _ _ _ _ _ _ (a0_21.put (some 73) (.int .i64 (ax : Int))) _
  obtain ⟨a0_22, ha22⟩ : ∃ rr : Act, rr = a0_21.put (some 73) (.int .i64 (ax : Int)) := ⟨_, rfl⟩
  have qz22 : 107 < a0_22.tmps.size := by rw [ha22, sz_put]; exact qz21
  have f22_3 : a0_22.eval (.tmp 3) = .pointer (some ⟨za, 0, none⟩) := by rw [ha22, ev_other _ _ _ _ (by decide)]; exact f21_3
  have f22_4 : a0_22.eval (.tmp 4) = .pointer (some ⟨zb, 0, none⟩) := by rw [ha22, ev_other _ _ _ _ (by decide)]; exact f21_4
  have f22_8 : a0_22.eval (.tmp 8) = .pointer (some ⟨zk, 0, none⟩) := by rw [ha22, ev_other _ _ _ _ (by decide)]; exact f21_8
  have f22_9 : a0_22.eval (.tmp 9) = .int .i64 (ax : Int) := by rw [ha22, ev_other _ _ _ _ (by decide)]; exact f21_9
  have f22_72 : a0_22.eval (.tmp 72) = .bool false := by rw [ha22, ev_other _ _ _ _ (by decide)]; exact f21_72
  have f22_73 : a0_22.eval (.tmp 73) = .int .i64 (ax : Int) := by rw [ha22]; exact ev_same _ _ _ (Nat.lt_of_le_of_lt (by decide) qz21)
  rw [← ha22] at h0 ⊢
  clear ha22
  refine wpAnyH_take (i := 22) (oi := pm_22 s) (v := .pointer (some ⟨za, ax, none⟩)) (by kernel_rfl) (by kernel_rfl) (by kernel_rfl) (by kernel_rfl) (fun c a w h => hQ c _ _ _ w h) (Or.inl ⟨wanted_some rfl (by kernel_rfl) f22_72 (Nat.lt_of_le_of_lt (by decide) qz22), fun w hw => run_ix2p rfl f22_3 f22_73 ha w⟩) (hk2 w2 hM2) ?_
  change wpAnyH _ _ _ _ _ _ _ (a0_22.put (some 74) (.pointer (some ⟨za, ax, none⟩))) _
  obtain ⟨a0_23, ha23⟩ : ∃ rr : Act, rr = a0_22.put (some 74) (.pointer (some ⟨za, ax, none⟩)) := ⟨_, rfl⟩
  have qz23 : 107 < a0_23.tmps.size := by rw [ha23, sz_put]; exact qz22
  have f23_3 : a0_23.eval (.tmp 3) = .pointer (some ⟨za, 0, none⟩) := by rw [ha23, ev_other _ _ _ _ (by decide)]; exact f22_3
  have f23_4 : a0_23.eval (.tmp 4) = .pointer (some ⟨zb, 0, none⟩) := by rw [ha23, ev_other _ _ _ _ (by decide)]; exact f22_4
  have f23_8 : a0_23.eval (.tmp 8) = .pointer (some ⟨zk, 0, none⟩) := by rw [ha23, ev_other _ _ _ _ (by decide)]; exact f22_8
  have f23_9 : a0_23.eval (.tmp 9) = .int .i64 (ax : Int) := by rw [ha23, ev_other _ _ _ _ (by decide)]; exact f22_9
  have f23_72 : a0_23.eval (.tmp 72) = .bool false := by rw [ha23, ev_other _ _ _ _ (by decide)]; exact f22_72
  have f23_74 : a0_23.eval (.tmp 74) = .pointer (some ⟨za, ax, none⟩) := by rw [ha23]; exact ev_same _ _ _ (Nat.lt_of_le_of_lt (by decide) qz22)
  rw [← ha23] at h0 ⊢
  clear ha23
  refine wpAnyH_take (i := 23) (oi := pm_23 s) (v := .pointer (some ⟨pz, 0, none⟩)) (by kernel_rfl) (by kernel_rfl) (by kernel_rfl) (by kernel_rfl) (fun c a w h => hQ c _ _ _ w h) (Or.inl ⟨wanted_some rfl (by kernel_rfl) f23_72 (Nat.lt_of_le_of_lt (by decide) qz23), fun w hw => run_load rfl f23_74 (load_pp hw.1)⟩) (hk2 w2 hM2) ?_
  change wpAnyH _ _ _ _ _ _ _ (a0_23.put (some 75) (.pointer (some ⟨pz, 0, none⟩))) _
  obtain ⟨a0_24, ha24⟩ : ∃ rr : Act, rr = a0_23.put (some 75) (.pointer (some ⟨pz, 0, none⟩)) := ⟨_, rfl⟩
  have qz24 : 107 < a0_24.tmps.size := by rw [ha24, sz_put]; exact qz23
  have f24_3 : a0_24.eval (.tmp 3) = .pointer (some ⟨za, 0, none⟩) := by rw [ha24, ev_other _ _ _ _ (by decide)]; exact f23_3
  have f24_4 : a0_24.eval (.tmp 4) = .pointer (some ⟨zb, 0, none⟩) := by rw [ha24, ev_other _ _ _ _ (by decide)]; exact f23_4
  have f24_8 : a0_24.eval (.tmp 8) = .pointer (some ⟨zk, 0, none⟩) := by rw [ha24, ev_other _ _ _ _ (by decide)]; exact f23_8
  have f24_9 : a0_24.eval (.tmp 9) = .int .i64 (ax : Int) := by rw [ha24, ev_other _ _ _ _ (by decide)]; exact f23_9
  have f24_72 : a0_24.eval (.tmp 72) = .bool false := by rw [ha24, ev_other _ _ _ _ (by decide)]; exact f23_72
  have f24_75 : a0_24.eval (.tmp 75) = .pointer (some ⟨pz, 0, none⟩) := by rw [ha24]; exact ev_same _ _ _ (Nat.lt_of_le_of_lt (by decide) qz23)
  rw [← ha24] at h0 ⊢
  clear ha24
  refine wpAnyH_take (i := 24) (oi := pm_24 s) (v := .int .i64 (ax : Int)) (by kernel_rfl) (by kernel_rfl) (by kernel_rfl) (by kernel_rfl) (fun c a w h => hQ c _ _ _ w h) (Or.inl ⟨wanted_some rfl (by kernel_rfl) f24_72 (Nat.lt_of_le_of_lt (by decide) qz24), fun w hw => by simp only [execOp, pm_24, f24_9]; rfl⟩) (hk2 w2 hM2) ?_
  change wpAnyH _ _ _ _ _ _ _ (a0_24.put (some 76) (.int .i64 (ax : Int))) _
  obtain ⟨a0_25, ha25⟩ : ∃ rr : Act, rr = a0_24.put (some 76) (.int .i64 (ax : Int)) := ⟨_, rfl⟩
  have qz25 : 107 < a0_25.tmps.size := by rw [ha25, sz_put]; exact qz24
  have f25_3 : a0_25.eval (.tmp 3) = .pointer (some ⟨za, 0, none⟩) := by rw [ha25, ev_other _ _ _ _ (by decide)]; exact f24_3
  have f25_4 : a0_25.eval (.tmp 4) = .pointer (some ⟨zb, 0, none⟩) := by rw [ha25, ev_other _ _ _ _ (by decide)]; exact f24_4
  have f25_8 : a0_25.eval (.tmp 8) = .pointer (some ⟨zk, 0, none⟩) := by rw [ha25, ev_other _ _ _ _ (by decide)]; exact f24_8
  have f25_9 : a0_25.eval (.tmp 9) = .int .i64 (ax : Int) := by rw [ha25, ev_other _ _ _ _ (by decide)]; exact f24_9
  have f25_72 : a0_25.eval (.tmp 72) = .bool false := by rw [ha25, ev_other _ _ _ _ (by decide)]; exact f24_72
  have f25_75 : a0_25.eval (.tmp 75) = .pointer (some ⟨pz, 0, none⟩) := by rw [ha25, ev_other _ _ _ _ (by decide)]; exact f24_75
  have f25_76 : a0_25.eval (.tmp 76) = .int .i64 (ax : Int) := by rw [ha25]; exact ev_same _ _ _ (Nat.lt_of_le_of_lt (by decide) qz24)
  rw [← ha25] at h0 ⊢
  clear ha25
  refine wpAnyH_take (i := 25) (oi := pm_25 s) (v := .pointer (some ⟨zb, ax, none⟩)) (by kernel_rfl) (by kernel_rfl) (by kernel_rfl) (by kernel_rfl) (fun c a w h => hQ c _ _ _ w h) (Or.inl ⟨wanted_some rfl (by kernel_rfl) f25_72 (Nat.lt_of_le_of_lt (by decide) qz25), fun w hw => run_ix2r rfl f25_4 f25_76 ha w⟩) (hk2 w2 hM2) ?_
  change wpAnyH _ _ _ _ _ _ _ (a0_25.put (some 77) (.pointer (some ⟨zb, ax, none⟩))) _
  obtain ⟨a0_26, ha26⟩ : ∃ rr : Act, rr = a0_25.put (some 77) (.pointer (some ⟨zb, ax, none⟩)) := ⟨_, rfl⟩
  have qz26 : 107 < a0_26.tmps.size := by rw [ha26, sz_put]; exact qz25
  have f26_3 : a0_26.eval (.tmp 3) = .pointer (some ⟨za, 0, none⟩) := by rw [ha26, ev_other _ _ _ _ (by decide)]; exact f25_3
  have f26_4 : a0_26.eval (.tmp 4) = .pointer (some ⟨zb, 0, none⟩) := by rw [ha26, ev_other _ _ _ _ (by decide)]; exact f25_4
  have f26_8 : a0_26.eval (.tmp 8) = .pointer (some ⟨zk, 0, none⟩) := by rw [ha26, ev_other _ _ _ _ (by decide)]; exact f25_8
  have f26_9 : a0_26.eval (.tmp 9) = .int .i64 (ax : Int) := by rw [ha26, ev_other _ _ _ _ (by decide)]; exact f25_9
  have f26_72 : a0_26.eval (.tmp 72) = .bool false := by rw [ha26, ev_other _ _ _ _ (by decide)]; exact f25_72
  have f26_75 : a0_26.eval (.tmp 75) = .pointer (some ⟨pz, 0, none⟩) := by rw [ha26, ev_other _ _ _ _ (by decide)]; exact f25_75
  have f26_77 : a0_26.eval (.tmp 77) = .pointer (some ⟨zb, ax, none⟩) := by rw [ha26]; exact ev_same _ _ _ (Nat.lt_of_le_of_lt (by decide) qz25)
  rw [← ha26] at h0 ⊢
  clear ha26
  refine wpAnyH_take (i := 26) (oi := pm_26 s) (v := .pointer (some ⟨rz, 0, none⟩)) (by kernel_rfl) (by kernel_rfl) (by kernel_rfl) (by kernel_rfl) (fun c a w h => hQ c _ _ _ w h) (Or.inl ⟨wanted_some rfl (by kernel_rfl) f26_72 (Nat.lt_of_le_of_lt (by decide) qz26), fun w hw => run_load rfl f26_77 (load_pr hw.2.1)⟩) (hk2 w2 hM2) ?_
  change wpAnyH _ _ _ _ _ _ _ (a0_26.put (some 78) (.pointer (some ⟨rz, 0, none⟩))) _
  obtain ⟨a0_27, ha27⟩ : ∃ rr : Act, rr = a0_26.put (some 78) (.pointer (some ⟨rz, 0, none⟩)) := ⟨_, rfl⟩
  have qz27 : 107 < a0_27.tmps.size := by rw [ha27, sz_put]; exact qz26
  have f27_3 : a0_27.eval (.tmp 3) = .pointer (some ⟨za, 0, none⟩) := by rw [ha27, ev_other _ _ _ _ (by decide)]; exact f26_3
  have f27_4 : a0_27.eval (.tmp 4) = .pointer (some ⟨zb, 0, none⟩) := by rw [ha27, ev_other _ _ _ _ (by decide)]; exact f26_4
  have f27_8 : a0_27.eval (.tmp 8) = .pointer (some ⟨zk, 0, none⟩) := by rw [ha27, ev_other _ _ _ _ (by decide)]; exact f26_8
  have f27_9 : a0_27.eval (.tmp 9) = .int .i64 (ax : Int) := by rw [ha27, ev_other _ _ _ _ (by decide)]; exact f26_9
  have f27_72 : a0_27.eval (.tmp 72) = .bool false := by rw [ha27, ev_other _ _ _ _ (by decide)]; exact f26_72
  have f27_75 : a0_27.eval (.tmp 75) = .pointer (some ⟨pz, 0, none⟩) := by rw [ha27, ev_other _ _ _ _ (by decide)]; exact f26_75
  have f27_78 : a0_27.eval (.tmp 78) = .pointer (some ⟨rz, 0, none⟩) := by rw [ha27]; exact ev_same _ _ _ (Nat.lt_of_le_of_lt (by decide) qz26)
  rw [← ha27] at h0 ⊢
  clear ha27
  refine wpAnyH_take (i := 27) (oi := pm_27 s) (v := keyV K5) (by kernel_rfl) (by kernel_rfl) (by kernel_rfl) (by kernel_rfl) (fun c a w h => hQ c _ _ _ w h) (Or.inl ⟨wanted_some rfl (by kernel_rfl) f27_72 (Nat.lt_of_le_of_lt (by decide) qz27), fun w hw => run_load rfl f27_8 hw.2.2.load⟩) (hk2 w2 hM2) ?_
  change wpAnyH _ _ _ _ _ _ _ (a0_27.put (some 79) (keyV K5)) _
  obtain ⟨a0_28, ha28⟩ : ∃ rr : Act, rr = a0_27.put (some 79) (keyV K5) := ⟨_, rfl⟩
  have qz28 : 107 < a0_28.tmps.size := by rw [ha28, sz_put]; exact qz27
  have f28_3 : a0_28.eval (.tmp 3) = .pointer (some ⟨za, 0, none⟩) := by rw [ha28, ev_other _ _ _ _ (by decide)]; exact f27_3
  have f28_4 : a0_28.eval (.tmp 4) = .pointer (some ⟨zb, 0, none⟩) := by rw [ha28, ev_other _ _ _ _ (by decide)]; exact f27_4
  have f28_8 : a0_28.eval (.tmp 8) = .pointer (some ⟨zk, 0, none⟩) := by rw [ha28, ev_other _ _ _ _ (by decide)]; exact f27_8
  have f28_9 : a0_28.eval (.tmp 9) = .int .i64 (ax : Int) := by rw [ha28, ev_other _ _ _ _ (by decide)]; exact f27_9
  have f28_72 : a0_28.eval (.tmp 72) = .bool false := by rw [ha28, ev_other _ _ _ _ (by decide)]; exact f27_72
  have f28_75 : a0_28.eval (.tmp 75) = .pointer (some ⟨pz, 0, none⟩) := by rw [ha28, ev_other _ _ _ _ (by decide)]; exact f27_75
  have f28_78 : a0_28.eval (.tmp 78) = .pointer (some ⟨rz, 0, none⟩) := by rw [ha28, ev_other _ _ _ _ (by decide)]; exact f27_78
  have f28_79 : a0_28.eval (.tmp 79) = keyV K5 := by rw [ha28]; exact ev_same _ _ _ (Nat.lt_of_le_of_lt (by decide) qz27)
  rw [← ha28] at h0 ⊢
  clear ha28
  refine wpAnyH_take (i := 28) (oi := pm_28 s) (v := .agg (stL 2 false 3 K5 false).toArray) (by kernel_rfl) (by kernel_rfl) (by kernel_rfl) (by kernel_rfl) (fun c a w h => hQ c _ _ _ w h) (Or.inl ⟨wanted_some rfl (by kernel_rfl) f28_72 (Nat.lt_of_le_of_lt (by decide) qz28), fun w hw => bl2 s f28_79 w⟩) (hk2 w2 hM2) ?_
  change wpAnyH _ _ _ _ _ _ _ (a0_28.put (some 80) (.agg (stL 2 false 3 K5 false).toArray)) _
  obtain ⟨a0_29, ha29⟩ : ∃ rr : Act, rr = a0_28.put (some 80) (.agg (stL 2 false 3 K5 false).toArray) := ⟨_, rfl⟩
  have qz29 : 107 < a0_29.tmps.size := by rw [ha29, sz_put]; exact qz28
  have f29_3 : a0_29.eval (.tmp 3) = .pointer (some ⟨za, 0, none⟩) := by rw [ha29, ev_other _ _ _ _ (by decide)]; exact f28_3
  have f29_4 : a0_29.eval (.tmp 4) = .pointer (some ⟨zb, 0, none⟩) := by rw [ha29, ev_other _ _ _ _ (by decide)]; exact f28_4
  have f29_8 : a0_29.eval (.tmp 8) = .pointer (some ⟨zk, 0, none⟩) := by rw [ha29, ev_other _ _ _ _ (by decide)]; exact f28_8
  have f29_9 : a0_29.eval (.tmp 9) = .int .i64 (ax : Int) := by rw [ha29, ev_other _ _ _ _ (by decide)]; exact f28_9
  have f29_72 : a0_29.eval (.tmp 72) = .bool false := by rw [ha29, ev_other _ _ _ _ (by decide)]; exact f28_72
  have f29_75 : a0_29.eval (.tmp 75) = .pointer (some ⟨pz, 0, none⟩) := by rw [ha29, ev_other _ _ _ _ (by decide)]; exact f28_75
  have f29_78 : a0_29.eval (.tmp 78) = .pointer (some ⟨rz, 0, none⟩) := by rw [ha29, ev_other _ _ _ _ (by decide)]; exact f28_78
  have f29_80 : a0_29.eval (.tmp 80) = .agg (stL 2 false 3 K5 false).toArray := by rw [ha29]; exact ev_same _ _ _ (Nat.lt_of_le_of_lt (by decide) qz28)
  rw [← ha29] at h0 ⊢
  clear ha29
  refine wpAnyH_ready (rs := [29]) (by kernel_rfl) (by simp) ?_
  refine AllReadyH.cons (o := pm_29 s) (by kernel_rfl) (fun KQ hKQ => ?_) AllReadyH.nil
  rw [if_pos (wanted_some rfl (by kernel_rfl) f29_72 (Nat.lt_of_le_of_lt (by decide) qz29))]
  refine step_enterE 7 #[.pointer (some ⟨pz, 0, none⟩), .pointer (some ⟨rz, 0, none⟩), .agg (stL 2 false 3 K5 false).toArray] (by rw [pm_enter29, f29_75, f29_78, f29_80]) (fun V w' => V = .bool true ∧ M3 w') ((hc3 w2 hM2).mono (fun e w' h => ⟨_, h.1, rfl, h.2⟩)) ?_
  rintro _ w3 ⟨rfl, hM3⟩
  refine hKQ.out _ _ (hk3 w3 hM3) (fun _ => ?_)
  clear hKQ KQ
  change wpAnyH _ _ _ _ _ _ _ (a0_29.put (some 81) (.bool true)) _
  obtain ⟨a0_30, ha30⟩ : ∃ rr : Act, rr = a0_29.put (some 81) (.bool true) := ⟨_, rfl⟩
  have qz30 : 107 < a0_30.tmps.size := by rw [ha30, sz_put]; exact qz29
  have f30_3 : a0_30.eval (.tmp 3) = .pointer (some ⟨za, 0, none⟩) := by rw [ha30, ev_other _ _ _ _ (by decide)]; exact f29_3
  have f30_4 : a0_30.eval (.tmp 4) = .pointer (some ⟨zb, 0, none⟩) := by rw [ha30, ev_other _ _ _ _ (by decide)]; exact f29_4
  have f30_8 : a0_30.eval (.tmp 8) = .pointer (some ⟨zk, 0, none⟩) := by rw [ha30, ev_other _ _ _ _ (by decide)]; exact f29_8
  have f30_9 : a0_30.eval (.tmp 9) = .int .i64 (ax : Int) := by rw [ha30, ev_other _ _ _ _ (by decide)]; exact f29_9
  have f30_72 : a0_30.eval (.tmp 72) = .bool false := by rw [ha30, ev_other _ _ _ _ (by decide)]; exact f29_72
  have f30_81 : a0_30.eval (.tmp 81) = .bool true := by rw [ha30]; exact ev_same _ _ _ (Nat.lt_of_le_of_lt (by decide) qz29)
  rw [← ha30] at h0 ⊢
  clear ha30
  refine wpAnyH_take (i := 30) (oi := pm_30 s) (v := .bool false) (by kernel_rfl) (by kernel_rfl) (by kernel_rfl) (by kernel_rfl) (fun c a w h => hQ c _ _ _ w h) (Or.inl ⟨wanted_some rfl (by kernel_rfl) f30_72 (Nat.lt_of_le_of_lt (by decide) qz30), fun w hw => run_notT rfl f30_81 w⟩) (hk3 w3 hM3) ?_
  change wpAnyH _ _ _ _ _ _ _ (a0_30.put (some 82) (.bool false)) _
  obtain ⟨a0_31, ha31⟩ : ∃ rr : Act, rr = a0_30.put (some 82) (.bool false) := ⟨_, rfl⟩
  have qz31 : 107 < a0_31.tmps.size := by rw [ha31, sz_put]; exact qz30
  have f31_3 : a0_31.eval (.tmp 3) = .pointer (some ⟨za, 0, none⟩) := by rw [ha31, ev_other _ _ _ _ (by decide)]; exact f30_3
  have f31_4 : a0_31.eval (.tmp 4) = .pointer (some ⟨zb, 0, none⟩) := by rw [ha31, ev_other _ _ _ _ (by decide)]; exact f30_4
  have f31_8 : a0_31.eval (.tmp 8) = .pointer (some ⟨zk, 0, none⟩) := by rw [ha31, ev_other _ _ _ _ (by decide)]; exact f30_8
  have f31_9 : a0_31.eval (.tmp 9) = .int .i64 (ax : Int) := by rw [ha31, ev_other _ _ _ _ (by decide)]; exact f30_9
  have f31_72 : a0_31.eval (.tmp 72) = .bool false := by rw [ha31, ev_other _ _ _ _ (by decide)]; exact f30_72
  have f31_82 : a0_31.eval (.tmp 82) = .bool false := by rw [ha31]; exact ev_same _ _ _ (Nat.lt_of_le_of_lt (by decide) qz30)
  rw [← ha31] at h0 ⊢
  clear ha31
  refine wpAnyH_take (i := 31) (oi := pm_31 s) (v := .bool false) (by kernel_rfl) (by kernel_rfl) (by kernel_rfl) (by kernel_rfl) (fun c a w h => hQ c _ _ _ w h) (Or.inl ⟨wanted_none rfl, fun w hw => run_pickF rfl f31_72 f31_82 w⟩) (hk3 w3 hM3) ?_
  change wpAnyH _ _ _ _ _ _ _ (a0_31.put (some 83) (.bool false)) _
  obtain ⟨a0_32, ha32⟩ : ∃ rr : Act, rr = a0_31.put (some 83) (.bool false) := ⟨_, rfl⟩
  have qz32 : 107 < a0_32.tmps.size := by rw [ha32, sz_put]; exact qz31
  have f32_3 : a0_32.eval (.tmp 3) = .pointer (some ⟨za, 0, none⟩) := by rw [ha32, ev_other _ _ _ _ (by decide)]; exact f31_3
  have f32_4 : a0_32.eval (.tmp 4) = .pointer (some ⟨zb, 0, none⟩) := by rw [ha32, ev_other _ _ _ _ (by decide)]; exact f31_4
  have f32_8 : a0_32.eval (.tmp 8) = .pointer (some ⟨zk, 0, none⟩) := by rw [ha32, ev_other _ _ _ _ (by decide)]; exact f31_8
  have f32_9 : a0_32.eval (.tmp 9) = .int .i64 (ax : Int) := by rw [ha32, ev_other _ _ _ _ (by decide)]; exact f31_9
  have f32_83 : a0_32.eval (.tmp 83) = .bool false := by rw [ha32]; exact ev_same _ _ _ (Nat.lt_of_le_of_lt (by decide) qz31)
  rw [← ha32] at h0 ⊢
  clear ha32
  refine wpAnyH_take (i := 32) (oi := pm_32 s) (v := .bool false) (by kernel_rfl) (by kernel_rfl) (by kernel_rfl) (by kernel_rfl) (fun c a w h => hQ c _ _ _ w h) (Or.inl ⟨wanted_none rfl, fun w hw => by simp only [execOp, pm_32, f32_83]; rfl⟩) (hk3 w3 hM3) ?_
  change wpAnyH _ _ _ _ _ _ _ (a0_32.put (some 84) (.bool false)) _
  obtain ⟨a0_33, ha33⟩ : ∃ rr : Act, rr = a0_32.put (some 84) (.bool false) := ⟨_, rfl⟩
  have qz33 : 107 < a0_33.tmps.size := by rw [ha33, sz_put]; exact qz32
  have f33_3 : a0_33.eval (.tmp 3) = .pointer (some ⟨za, 0, none⟩) := by rw [ha33, ev_other _ _ _ _ (by decide)]; exact f32_3
  have f33_4 : a0_33.eval (.tmp 4) = .pointer (some ⟨zb, 0, none⟩) := by rw [ha33, ev_other _ _ _ _ (by decide)]; exact f32_4
  have f33_8 : a0_33.eval (.tmp 8) = .pointer (some ⟨zk, 0, none⟩) := by rw [ha33, ev_other _ _ _ _ (by decide)]; exact f32_8
  have f33_9 : a0_33.eval (.tmp 9) = .int .i64 (ax : Int) := by rw [ha33, ev_other _ _ _ _ (by decide)]; exact f32_9
  have f33_84 : a0_33.eval (.tmp 84) = .bool false := by rw [ha33]; exact ev_same _ _ _ (Nat.lt_of_le_of_lt (by decide) qz32)
  rw [← ha33] at h0 ⊢
  clear ha33
  refine wpAnyH_take (i := 33) (oi := pm_33 s) (v := .int .i64 (ax : Int)) (by kernel_rfl) (by kernel_rfl) (by kernel_rfl) (by kernel_rfl) (fun c a w h => hQ c _ _ _ w h) (Or.inl ⟨wanted_some rfl (by kernel_rfl) f33_84 (Nat.lt_of_le_of_lt (by decide) qz33), fun w hw => by simp only [execOp, pm_33, f33_9]; rfl⟩) (hk3 w3 hM3) ?_
  change wpAnyH _ _ _ _ _ _ _ (a0_33.put (some 85) (.int .i64 (ax : Int))) _
  obtain ⟨a0_34, ha34⟩ : ∃ rr : Act, rr = a0_33.put (some 85) (.int .i64 (ax : Int)) := ⟨_, rfl⟩
  have qz34 : 107 < a0_34.tmps.size := by rw [ha34, sz_put]; exact qz33
  have f34_3 : a0_34.eval (.tmp 3) = .pointer (some ⟨za, 0, none⟩) := by rw [ha34, ev_other _ _ _ _ (by decide)]; exact f33_3
  have f34_4 : a0_34.eval (.tmp 4) = .pointer (some ⟨zb, 0, none⟩) := by rw [ha34, ev_other _ _ _ _ (by decide)]; exact f33_4
  have f34_8 : a0_34.eval (.tmp 8) = .pointer (some ⟨zk, 0, none⟩) := by rw [ha34, ev_other _ _ _ _ (by decide)]; exact f33_8
  have f34_9 : a0_34.eval (.tmp 9) = .int .i64 (ax : Int) := by rw [ha34, ev_other _ _ _ _ (by decide)]; exact f33_9
  have f34_84 : a0_34.eval (.tmp 84) = .bool false := by rw [ha34, ev_other _ _ _ _ (by decide)]; exact f33_84
  have f34_85 : a0_34.eval (.tmp 85) = .int .i64 (ax : Int) := by rw [ha34]; exact ev_same _ _ _ (Nat.lt_of_le_of_lt (by decide) qz33)
  rw [← ha34] at h0 ⊢
  clear ha34
  refine wpAnyH_take (i := 34) (oi := pm_34 s) (v := .pointer (some ⟨za, ax, none⟩)) (by kernel_rfl) (by kernel_rfl) (by kernel_rfl) (by kernel_rfl) (fun c a w h => hQ c _ _ _ w h) (Or.inl ⟨wanted_some rfl (by kernel_rfl) f34_84 (Nat.lt_of_le_of_lt (by decide) qz34), fun w hw => run_ix2p rfl f34_3 f34_85 ha w⟩) (hk3 w3 hM3) ?_
  change wpAnyH _ _ _ _ _ _ _ (a0_34.put (some 86) (.pointer (some ⟨za, ax, none⟩))) _
  obtain ⟨a0_35, ha35⟩ : ∃ rr : Act, rr = a0_34.put (some 86) (.pointer (some ⟨za, ax, none⟩)) := ⟨_, rfl⟩
  have qz35 : 107 < a0_35.tmps.size := by rw [ha35, sz_put]; exact qz34
  have f35_3 : a0_35.eval (.tmp 3) = .pointer (some ⟨za, 0, none⟩) := by rw [ha35, ev_other _ _ _ _ (by decide)]; exact f34_3
  have f35_4 : a0_35.eval (.tmp 4) = .pointer (some ⟨zb, 0, none⟩) := by rw [ha35, ev_other _ _ _ _ (by decide)]; exact f34_4
  have f35_8 : a0_35.eval (.tmp 8) = .pointer (some ⟨zk, 0, none⟩) := by rw [ha35, ev_other _ _ _ _ (by decide)]; exact f34_8
  have f35_9 : a0_35.eval (.tmp 9) = .int .i64 (ax : Int) := by rw [ha35, ev_other _ _ _ _ (by decide)]; exact f34_9
  have f35_84 : a0_35.eval (.tmp 84) = .bool false := by rw [ha35, ev_other _ _ _ _ (by decide)]; exact f34_84
  have f35_86 : a0_35.eval (.tmp 86) = .pointer (some ⟨za, ax, none⟩) := by rw [ha35]; exact ev_same _ _ _ (Nat.lt_of_le_of_lt (by decide) qz34)
  rw [← ha35] at h0 ⊢
  clear ha35
  refine wpAnyH_take (i := 35) (oi := pm_35 s) (v := .pointer (some ⟨pz, 0, none⟩)) (by kernel_rfl) (by kernel_rfl) (by kernel_rfl) (by kernel_rfl) (fun c a w h => hQ c _ _ _ w h) (Or.inl ⟨wanted_some rfl (by kernel_rfl) f35_84 (Nat.lt_of_le_of_lt (by decide) qz35), fun w hw => run_load rfl f35_86 (load_pp hw.1)⟩) (hk3 w3 hM3) ?_
  change wpAnyH _ _ _ _ _ _ _ (a0_35.put (some 87) (.pointer (some ⟨pz, 0, none⟩))) _
  obtain ⟨a0_36, ha36⟩ : ∃ rr : Act, rr = a0_35.put (some 87) (.pointer (some ⟨pz, 0, none⟩)) := ⟨_, rfl⟩
  have qz36 : 107 < a0_36.tmps.size := by rw [ha36, sz_put]; exact qz35
  have f36_3 : a0_36.eval (.tmp 3) = .pointer (some ⟨za, 0, none⟩) := by rw [ha36, ev_other _ _ _ _ (by decide)]; exact f35_3
  have f36_4 : a0_36.eval (.tmp 4) = .pointer (some ⟨zb, 0, none⟩) := by rw [ha36, ev_other _ _ _ _ (by decide)]; exact f35_4
  have f36_8 : a0_36.eval (.tmp 8) = .pointer (some ⟨zk, 0, none⟩) := by rw [ha36, ev_other _ _ _ _ (by decide)]; exact f35_8
  have f36_9 : a0_36.eval (.tmp 9) = .int .i64 (ax : Int) := by rw [ha36, ev_other _ _ _ _ (by decide)]; exact f35_9
  have f36_84 : a0_36.eval (.tmp 84) = .bool false := by rw [ha36, ev_other _ _ _ _ (by decide)]; exact f35_84
  have f36_87 : a0_36.eval (.tmp 87) = .pointer (some ⟨pz, 0, none⟩) := by rw [ha36]; exact ev_same _ _ _ (Nat.lt_of_le_of_lt (by decide) qz35)
  rw [← ha36] at h0 ⊢
  clear ha36
  refine wpAnyH_take (i := 36) (oi := pm_36 s) (v := .int .i64 (ax : Int)) (by kernel_rfl) (by kernel_rfl) (by kernel_rfl) (by kernel_rfl) (fun c a w h => hQ c _ _ _ w h) (Or.inl ⟨wanted_some rfl (by kernel_rfl) f36_84 (Nat.lt_of_le_of_lt (by decide) qz36), fun w hw => by simp only [execOp, pm_36, f36_9]; rfl⟩) (hk3 w3 hM3) ?_
  change wpAnyH _ _ _ _ _ _ _ (a0_36.put (some 88) (.int .i64 (ax : Int))) _
  obtain ⟨a0_37, ha37⟩ : ∃ rr : Act, rr = a0_36.put (some 88) (.int .i64 (ax : Int)) := ⟨_, rfl⟩
  have qz37 : 107 < a0_37.tmps.size := by rw [ha37, sz_put]; exact qz36
  have f37_3 : a0_37.eval (.tmp 3) = .pointer (some ⟨za, 0, none⟩) := by rw [ha37, ev_other _ _ _ _ (by decide)]; exact f36_3
  have f37_4 : a0_37.eval (.tmp 4) = .pointer (some ⟨zb, 0, none⟩) := by rw [ha37, ev_other _ _ _ _ (by decide)]; exact f36_4
  have f37_8 : a0_37.eval (.tmp 8) = .pointer (some ⟨zk, 0, none⟩) := by rw [ha37, ev_other _ _ _ _ (by decide)]; exact f36_8
  have f37_9 : a0_37.eval (.tmp 9) = .int .i64 (ax : Int) := by rw [ha37, ev_other _ _ _ _ (by decide)]; exact f36_9
  have f37_84 : a0_37.eval (.tmp 84) = .bool false := by rw [ha37, ev_other _ _ _ _ (by decide)]; exact f36_84
  have f37_87 : a0_37.eval (.tmp 87) = .pointer (some ⟨pz, 0, none⟩) := by rw [ha37, ev_other _ _ _ _ (by decide)]; exact f36_87
  have f37_88 : a0_37.eval (.tmp 88) = .int .i64 (ax : Int) := by rw [ha37]; exact ev_same _ _ _ (Nat.lt_of_le_of_lt (by decide) qz36)
  rw [← ha37] at h0 ⊢
  clear ha37
  refine wpAnyH_take (i := 37) (oi := pm_37 s) (v := .pointer (some ⟨zb, ax, none⟩)) (by kernel_rfl) (by kernel_rfl) (by kernel_rfl) (by kernel_rfl) (fun c a w h => hQ c _ _ _ w h) (Or.inl ⟨wanted_some rfl (by kernel_rfl) f37_84 (Nat.lt_of_le_of_lt (by decide) qz37), fun w hw => run_ix2r rfl f37_4 f37_88 ha w⟩) (hk3 w3 hM3) ?_
  change wpAnyH _ _ _ _ _ _ _ (a0_37.put (some 89) (.pointer (some ⟨zb, ax, none⟩))) _
  obtain ⟨a0_38, ha38⟩ : ∃ rr : Act, rr = a0_37.put (some 89) (.pointer (some ⟨zb, ax, none⟩)) := ⟨_, rfl⟩
  have qz38 : 107 < a0_38.tmps.size := by rw [ha38, sz_put]; exact qz37
  have f38_3 : a0_38.eval (.tmp 3) = .pointer (some ⟨za, 0, none⟩) := by rw [ha38, ev_other _ _ _ _ (by decide)]; exact f37_3
  have f38_4 : a0_38.eval (.tmp 4) = .pointer (some ⟨zb, 0, none⟩) := by rw [ha38, ev_other _ _ _ _ (by decide)]; exact f37_4
  have f38_8 : a0_38.eval (.tmp 8) = .pointer (some ⟨zk, 0, none⟩) := by rw [ha38, ev_other _ _ _ _ (by decide)]; exact f37_8
  have f38_9 : a0_38.eval (.tmp 9) = .int .i64 (ax : Int) := by rw [ha38, ev_other _ _ _ _ (by decide)]; exact f37_9
  have f38_84 : a0_38.eval (.tmp 84) = .bool false := by rw [ha38, ev_other _ _ _ _ (by decide)]; exact f37_84
  have f38_87 : a0_38.eval (.tmp 87) = .pointer (some ⟨pz, 0, none⟩) := by rw [ha38, ev_other _ _ _ _ (by decide)]; exact f37_87
  have f38_89 : a0_38.eval (.tmp 89) = .pointer (some ⟨zb, ax, none⟩) := by rw [ha38]; exact ev_same _ _ _ (Nat.lt_of_le_of_lt (by decide) qz37)
  rw [← ha38] at h0 ⊢
  clear ha38
  refine wpAnyH_take (i := 38) (oi := pm_38 s) (v := .pointer (some ⟨rz, 0, none⟩)) (by kernel_rfl) (by kernel_rfl) (by kernel_rfl) (by kernel_rfl) (fun c a w h => hQ c _ _ _ w h) (Or.inl ⟨wanted_some rfl (by kernel_rfl) f38_84 (Nat.lt_of_le_of_lt (by decide) qz38), fun w hw => run_load rfl f38_89 (load_pr hw.2.1)⟩) (hk3 w3 hM3) ?_
  change wpAnyH _ _ _ _ _ _ _ (a0_38.put (some 90) (.pointer (some ⟨rz, 0, none⟩))) _
  obtain ⟨a0_39, ha39⟩ : ∃ rr : Act, rr = a0_38.put (some 90) (.pointer (some ⟨rz, 0, none⟩)) := ⟨_, rfl⟩
  have qz39 : 107 < a0_39.tmps.size := by rw [ha39, sz_put]; exact qz38
  have f39_3 : a0_39.eval (.tmp 3) = .pointer (some ⟨za, 0, none⟩) := by rw [ha39, ev_other _ _ _ _ (by decide)]; exact f38_3
  have f39_4 : a0_39.eval (.tmp 4) = .pointer (some ⟨zb, 0, none⟩) := by rw [ha39, ev_other _ _ _ _ (by decide)]; exact f38_4
  have f39_8 : a0_39.eval (.tmp 8) = .pointer (some ⟨zk, 0, none⟩) := by rw [ha39, ev_other _ _ _ _ (by decide)]; exact f38_8
  have f39_9 : a0_39.eval (.tmp 9) = .int .i64 (ax : Int) := by rw [ha39, ev_other _ _ _ _ (by decide)]; exact f38_9
  have f39_84 : a0_39.eval (.tmp 84) = .bool false := by rw [ha39, ev_other _ _ _ _ (by decide)]; exact f38_84
  have f39_87 : a0_39.eval (.tmp 87) = .pointer (some ⟨pz, 0, none⟩) := by rw [ha39, ev_other _ _ _ _ (by decide)]; exact f38_87
  have f39_90 : a0_39.eval (.tmp 90) = .pointer (some ⟨rz, 0, none⟩) := by rw [ha39]; exact ev_same _ _ _ (Nat.lt_of_le_of_lt (by decide) qz38)
  rw [← ha39] at h0 ⊢
  clear ha39
  refine wpAnyH_take (i := 39) (oi := pm_39 s) (v := keyV K5) (by kernel_rfl) (by kernel_rfl) (by kernel_rfl) (by kernel_rfl) (fun c a w h => hQ c _ _ _ w h) (Or.inl ⟨wanted_some rfl (by kernel_rfl) f39_84 (Nat.lt_of_le_of_lt (by decide) qz39), fun w hw => run_load rfl f39_8 hw.2.2.load⟩) (hk3 w3 hM3) ?_
  change wpAnyH _ _ _ _ _ _ _ (a0_39.put (some 91) (keyV K5)) _
  obtain ⟨a0_40, ha40⟩ : ∃ rr : Act, rr = a0_39.put (some 91) (keyV K5) := ⟨_, rfl⟩
  have qz40 : 107 < a0_40.tmps.size := by rw [ha40, sz_put]; exact qz39
  have f40_3 : a0_40.eval (.tmp 3) = .pointer (some ⟨za, 0, none⟩) := by rw [ha40, ev_other _ _ _ _ (by decide)]; exact f39_3
  have f40_4 : a0_40.eval (.tmp 4) = .pointer (some ⟨zb, 0, none⟩) := by rw [ha40, ev_other _ _ _ _ (by decide)]; exact f39_4
  have f40_8 : a0_40.eval (.tmp 8) = .pointer (some ⟨zk, 0, none⟩) := by rw [ha40, ev_other _ _ _ _ (by decide)]; exact f39_8
  have f40_9 : a0_40.eval (.tmp 9) = .int .i64 (ax : Int) := by rw [ha40, ev_other _ _ _ _ (by decide)]; exact f39_9
  have f40_84 : a0_40.eval (.tmp 84) = .bool false := by rw [ha40, ev_other _ _ _ _ (by decide)]; exact f39_84
  have f40_87 : a0_40.eval (.tmp 87) = .pointer (some ⟨pz, 0, none⟩) := by rw [ha40, ev_other _ _ _ _ (by decide)]; exact f39_87
  have f40_90 : a0_40.eval (.tmp 90) = .pointer (some ⟨rz, 0, none⟩) := by rw [ha40, ev_other _ _ _ _ (by decide)]; exact f39_90
  have f40_91 : a0_40.eval (.tmp 91) = keyV K5 := by rw [ha40]; exact ev_same _ _ _ (Nat.lt_of_le_of_lt (by decide) qz39)
  rw [← ha40] at h0 ⊢
  clear ha40
  refine wpAnyH_take (i := 40) (oi := pm_40 s) (v := .agg (stL 6 false 3 K5 false).toArray) (by kernel_rfl) (by kernel_rfl) (by kernel_rfl) (by kernel_rfl) (fun c a w h => hQ c _ _ _ w h) (Or.inl ⟨wanted_some rfl (by kernel_rfl) f40_84 (Nat.lt_of_le_of_lt (by decide) qz40), fun w hw => bl3 s f40_91 w⟩) (hk3 w3 hM3) ?_
  change wpAnyH _ _ _ _ _ _ _ (a0_40.put (some 92) (.agg (stL 6 false 3 K5 false).toArray)) _
  obtain ⟨a0_41, ha41⟩ : ∃ rr : Act, rr = a0_40.put (some 92) (.agg (stL 6 false 3 K5 false).toArray) := ⟨_, rfl⟩
  have qz41 : 107 < a0_41.tmps.size := by rw [ha41, sz_put]; exact qz40
  have f41_3 : a0_41.eval (.tmp 3) = .pointer (some ⟨za, 0, none⟩) := by rw [ha41, ev_other _ _ _ _ (by decide)]; exact f40_3
  have f41_4 : a0_41.eval (.tmp 4) = .pointer (some ⟨zb, 0, none⟩) := by rw [ha41, ev_other _ _ _ _ (by decide)]; exact f40_4
  have f41_8 : a0_41.eval (.tmp 8) = .pointer (some ⟨zk, 0, none⟩) := by rw [ha41, ev_other _ _ _ _ (by decide)]; exact f40_8
  have f41_9 : a0_41.eval (.tmp 9) = .int .i64 (ax : Int) := by rw [ha41, ev_other _ _ _ _ (by decide)]; exact f40_9
  have f41_84 : a0_41.eval (.tmp 84) = .bool false := by rw [ha41, ev_other _ _ _ _ (by decide)]; exact f40_84
  have f41_87 : a0_41.eval (.tmp 87) = .pointer (some ⟨pz, 0, none⟩) := by rw [ha41, ev_other _ _ _ _ (by decide)]; exact f40_87
  have f41_90 : a0_41.eval (.tmp 90) = .pointer (some ⟨rz, 0, none⟩) := by rw [ha41, ev_other _ _ _ _ (by decide)]; exact f40_90
  have f41_92 : a0_41.eval (.tmp 92) = .agg (stL 6 false 3 K5 false).toArray := by rw [ha41]; exact ev_same _ _ _ (Nat.lt_of_le_of_lt (by decide) qz40)
  rw [← ha41] at h0 ⊢
  clear ha41
  refine wpAnyH_ready (rs := [41]) (by kernel_rfl) (by simp) ?_
  refine AllReadyH.cons (o := pm_41 s) (by kernel_rfl) (fun KQ hKQ => ?_) AllReadyH.nil
  rw [if_pos (wanted_some rfl (by kernel_rfl) f41_84 (Nat.lt_of_le_of_lt (by decide) qz41))]
  refine step_enterE 7 #[.pointer (some ⟨pz, 0, none⟩), .pointer (some ⟨rz, 0, none⟩), .agg (stL 6 false 3 K5 false).toArray] (by rw [pm_enter41, f41_87, f41_90, f41_92]) (fun V w' => V = .bool true ∧ M4 w') ((hc4 w3 hM3).mono (fun e w' h => ⟨_, h.1, rfl, h.2⟩)) ?_
  rintro _ w4 ⟨rfl, hM4⟩
  refine hKQ.out _ _ (hk4 w4 hM4) (fun _ => ?_)
  clear hKQ KQ
  change wpAnyH _ _ _ _ _ _ _ (a0_41.put (some 93) (.bool true)) _
  obtain ⟨a0_42, ha42⟩ : ∃ rr : Act, rr = a0_41.put (some 93) (.bool true) := ⟨_, rfl⟩
  have qz42 : 107 < a0_42.tmps.size := by rw [ha42, sz_put]; exact qz41
  have f42_3 : a0_42.eval (.tmp 3) = .pointer (some ⟨za, 0, none⟩) := by rw [ha42, ev_other _ _ _ _ (by decide)]; exact f41_3
  have f42_4 : a0_42.eval (.tmp 4) = .pointer (some ⟨zb, 0, none⟩) := by rw [ha42, ev_other _ _ _ _ (by decide)]; exact f41_4
  have f42_8 : a0_42.eval (.tmp 8) = .pointer (some ⟨zk, 0, none⟩) := by rw [ha42, ev_other _ _ _ _ (by decide)]; exact f41_8
  have f42_9 : a0_42.eval (.tmp 9) = .int .i64 (ax : Int) := by rw [ha42, ev_other _ _ _ _ (by decide)]; exact f41_9
  have f42_84 : a0_42.eval (.tmp 84) = .bool false := by rw [ha42, ev_other _ _ _ _ (by decide)]; exact f41_84
  have f42_93 : a0_42.eval (.tmp 93) = .bool true := by rw [ha42]; exact ev_same _ _ _ (Nat.lt_of_le_of_lt (by decide) qz41)
  rw [← ha42] at h0 ⊢
  clear ha42
  refine wpAnyH_take (i := 42) (oi := pm_42 s) (v := .bool false) (by kernel_rfl) (by kernel_rfl) (by kernel_rfl) (by kernel_rfl) (fun c a w h => hQ c _ _ _ w h) (Or.inl ⟨wanted_some rfl (by kernel_rfl) f42_84 (Nat.lt_of_le_of_lt (by decide) qz42), fun w hw => run_notT rfl f42_93 w⟩) (hk4 w4 hM4) ?_
  change wpAnyH _ _ _ _ _ _ _ (a0_42.put (some 94) (.bool false)) _
  obtain ⟨a0_43, ha43⟩ : ∃ rr : Act, rr = a0_42.put (some 94) (.bool false) := ⟨_, rfl⟩
  have qz43 : 107 < a0_43.tmps.size := by rw [ha43, sz_put]; exact qz42
  have f43_3 : a0_43.eval (.tmp 3) = .pointer (some ⟨za, 0, none⟩) := by rw [ha43, ev_other _ _ _ _ (by decide)]; exact f42_3
  have f43_4 : a0_43.eval (.tmp 4) = .pointer (some ⟨zb, 0, none⟩) := by rw [ha43, ev_other _ _ _ _ (by decide)]; exact f42_4
  have f43_8 : a0_43.eval (.tmp 8) = .pointer (some ⟨zk, 0, none⟩) := by rw [ha43, ev_other _ _ _ _ (by decide)]; exact f42_8
  have f43_9 : a0_43.eval (.tmp 9) = .int .i64 (ax : Int) := by rw [ha43, ev_other _ _ _ _ (by decide)]; exact f42_9
  have f43_84 : a0_43.eval (.tmp 84) = .bool false := by rw [ha43, ev_other _ _ _ _ (by decide)]; exact f42_84
  have f43_94 : a0_43.eval (.tmp 94) = .bool false := by rw [ha43]; exact ev_same _ _ _ (Nat.lt_of_le_of_lt (by decide) qz42)
  rw [← ha43] at h0 ⊢
  clear ha43
  refine wpAnyH_take (i := 43) (oi := pm_43 s) (v := .bool false) (by kernel_rfl) (by kernel_rfl) (by kernel_rfl) (by kernel_rfl) (fun c a w h => hQ c _ _ _ w h) (Or.inl ⟨wanted_none rfl, fun w hw => run_pickF rfl f43_84 f43_94 w⟩) (hk4 w4 hM4) ?_
  change wpAnyH _ _ _ _ _ _ _ (a0_43.put (some 95) (.bool false)) _
  obtain ⟨a0_44, ha44⟩ : ∃ rr : Act, rr = a0_43.put (some 95) (.bool false) := ⟨_, rfl⟩
  have qz44 : 107 < a0_44.tmps.size := by rw [ha44, sz_put]; exact qz43
  have f44_3 : a0_44.eval (.tmp 3) = .pointer (some ⟨za, 0, none⟩) := by rw [ha44, ev_other _ _ _ _ (by decide)]; exact f43_3
  have f44_4 : a0_44.eval (.tmp 4) = .pointer (some ⟨zb, 0, none⟩) := by rw [ha44, ev_other _ _ _ _ (by decide)]; exact f43_4
  have f44_8 : a0_44.eval (.tmp 8) = .pointer (some ⟨zk, 0, none⟩) := by rw [ha44, ev_other _ _ _ _ (by decide)]; exact f43_8
  have f44_9 : a0_44.eval (.tmp 9) = .int .i64 (ax : Int) := by rw [ha44, ev_other _ _ _ _ (by decide)]; exact f43_9
  have f44_95 : a0_44.eval (.tmp 95) = .bool false := by rw [ha44]; exact ev_same _ _ _ (Nat.lt_of_le_of_lt (by decide) qz43)
  rw [← ha44] at h0 ⊢
  clear ha44
  refine wpAnyH_take (i := 44) (oi := pm_44 s) (v := .bool false) (by kernel_rfl) (by kernel_rfl) (by kernel_rfl) (by kernel_rfl) (fun c a w h => hQ c _ _ _ w h) (Or.inl ⟨wanted_none rfl, fun w hw => by simp only [execOp, pm_44, f44_95]; rfl⟩) (hk4 w4 hM4) ?_
  change wpAnyH _ _ _ _ _ _ _ (a0_44.put (some 96) (.bool false)) _
  obtain ⟨a0_45, ha45⟩ : ∃ rr : Act, rr = a0_44.put (some 96) (.bool false) := ⟨_, rfl⟩
  have qz45 : 107 < a0_45.tmps.size := by rw [ha45, sz_put]; exact qz44
  have f45_3 : a0_45.eval (.tmp 3) = .pointer (some ⟨za, 0, none⟩) := by rw [ha45, ev_other _ _ _ _ (by decide)]; exact f44_3
  have f45_4 : a0_45.eval (.tmp 4) = .pointer (some ⟨zb, 0, none⟩) := by rw [ha45, ev_other _ _ _ _ (by decide)]; exact f44_4
  have f45_8 : a0_45.eval (.tmp 8) = .pointer (some ⟨zk, 0, none⟩) := by rw [ha45, ev_other _ _ _ _ (by decide)]; exact f44_8
  have f45_9 : a0_45.eval (.tmp 9) = .int .i64 (ax : Int) := by rw [ha45, ev_other _ _ _ _ (by decide)]; exact f44_9
  have f45_96 : a0_45.eval (.tmp 96) = .bool false := by rw [ha45]; exact ev_same _ _ _ (Nat.lt_of_le_of_lt (by decide) qz44)
  rw [← ha45] at h0 ⊢
  clear ha45
  refine wpAnyH_take (i := 45) (oi := pm_45 s) (v := .int .i64 (ax : Int)) (by kernel_rfl) (by kernel_rfl) (by kernel_rfl) (by kernel_rfl) (fun c a w h => hQ c _ _ _ w h) (Or.inl ⟨wanted_some rfl (by kernel_rfl) f45_96 (Nat.lt_of_le_of_lt (by decide) qz45), fun w hw => by simp only [execOp, pm_45, f45_9]; rfl⟩) (hk4 w4 hM4) ?_
  change wpAnyH _ _ _ _ _ _ _ (a0_45.put (some 97) (.int .i64 (ax : Int))) _
  obtain ⟨a0_46, ha46⟩ : ∃ rr : Act, rr = a0_45.put (some 97) (.int .i64 (ax : Int)) := ⟨_, rfl⟩
  have qz46 : 107 < a0_46.tmps.size := by rw [ha46, sz_put]; exact qz45
  have f46_3 : a0_46.eval (.tmp 3) = .pointer (some ⟨za, 0, none⟩) := by rw [ha46, ev_other _ _ _ _ (by decide)]; exact f45_3
  have f46_4 : a0_46.eval (.tmp 4) = .pointer (some ⟨zb, 0, none⟩) := by rw [ha46, ev_other _ _ _ _ (by decide)]; exact f45_4
  have f46_8 : a0_46.eval (.tmp 8) = .pointer (some ⟨zk, 0, none⟩) := by rw [ha46, ev_other _ _ _ _ (by decide)]; exact f45_8
  have f46_9 : a0_46.eval (.tmp 9) = .int .i64 (ax : Int) := by rw [ha46, ev_other _ _ _ _ (by decide)]; exact f45_9
  have f46_96 : a0_46.eval (.tmp 96) = .bool false := by rw [ha46, ev_other _ _ _ _ (by decide)]; exact f45_96
  have f46_97 : a0_46.eval (.tmp 97) = .int .i64 (ax : Int) := by rw [ha46]; exact ev_same _ _ _ (Nat.lt_of_le_of_lt (by decide) qz45)
  rw [← ha46] at h0 ⊢
  clear ha46
  refine wpAnyH_take (i := 46) (oi := pm_46 s) (v := .pointer (some ⟨za, ax, none⟩)) (by kernel_rfl) (by kernel_rfl) (by kernel_rfl) (by kernel_rfl) (fun c a w h => hQ c _ _ _ w h) (Or.inl ⟨wanted_some rfl (by kernel_rfl) f46_96 (Nat.lt_of_le_of_lt (by decide) qz46), fun w hw => run_ix2p rfl f46_3 f46_97 ha w⟩) (hk4 w4 hM4) ?_
  change wpAnyH _ _ _ _ _ _ _ (a0_46.put (some 98) (.pointer (some ⟨za, ax, none⟩))) _
  obtain ⟨a0_47, ha47⟩ : ∃ rr : Act, rr = a0_46.put (some 98) (.pointer (some ⟨za, ax, none⟩)) := ⟨_, rfl⟩
  have qz47 : 107 < a0_47.tmps.size := by rw [ha47, sz_put]; exact qz46
  have f47_4 : a0_47.eval (.tmp 4) = .pointer (some ⟨zb, 0, none⟩) := by rw [ha47, ev_other _ _ _ _ (by decide)]; exact f46_4
  have f47_8 : a0_47.eval (.tmp 8) = .pointer (some ⟨zk, 0, none⟩) := by rw [ha47, ev_other _ _ _ _ (by decide)]; exact f46_8
  have f47_9 : a0_47.eval (.tmp 9) = .int .i64 (ax : Int) := by rw [ha47, ev_other _ _ _ _ (by decide)]; exact f46_9
  have f47_96 : a0_47.eval (.tmp 96) = .bool false := by rw [ha47, ev_other _ _ _ _ (by decide)]; exact f46_96
  have f47_98 : a0_47.eval (.tmp 98) = .pointer (some ⟨za, ax, none⟩) := by rw [ha47]; exact ev_same _ _ _ (Nat.lt_of_le_of_lt (by decide) qz46)
  rw [← ha47] at h0 ⊢
  clear ha47
  refine wpAnyH_take (i := 47) (oi := pm_47 s) (v := .pointer (some ⟨pz, 0, none⟩)) (by kernel_rfl) (by kernel_rfl) (by kernel_rfl) (by kernel_rfl) (fun c a w h => hQ c _ _ _ w h) (Or.inl ⟨wanted_some rfl (by kernel_rfl) f47_96 (Nat.lt_of_le_of_lt (by decide) qz47), fun w hw => run_load rfl f47_98 (load_pp hw.1)⟩) (hk4 w4 hM4) ?_
  change wpAnyH _ _ _ _ _ _ _ (a0_47.put (some 99) (.pointer (some ⟨pz, 0, none⟩))) _
  obtain ⟨a0_48, ha48⟩ : ∃ rr : Act, rr = a0_47.put (some 99) (.pointer (some ⟨pz, 0, none⟩)) := ⟨_, rfl⟩
  have qz48 : 107 < a0_48.tmps.size := by rw [ha48, sz_put]; exact qz47
  have f48_4 : a0_48.eval (.tmp 4) = .pointer (some ⟨zb, 0, none⟩) := by rw [ha48, ev_other _ _ _ _ (by decide)]; exact f47_4
  have f48_8 : a0_48.eval (.tmp 8) = .pointer (some ⟨zk, 0, none⟩) := by rw [ha48, ev_other _ _ _ _ (by decide)]; exact f47_8
  have f48_9 : a0_48.eval (.tmp 9) = .int .i64 (ax : Int) := by rw [ha48, ev_other _ _ _ _ (by decide)]; exact f47_9
  have f48_96 : a0_48.eval (.tmp 96) = .bool false := by rw [ha48, ev_other _ _ _ _ (by decide)]; exact f47_96
  have f48_99 : a0_48.eval (.tmp 99) = .pointer (some ⟨pz, 0, none⟩) := by rw [ha48]; exact ev_same _ _ _ (Nat.lt_of_le_of_lt (by decide) qz47)
  rw [← ha48] at h0 ⊢
  clear ha48
  refine wpAnyH_take (i := 48) (oi := pm_48 s) (v := .int .i64 (ax : Int)) (by kernel_rfl) (by kernel_rfl) (by kernel_rfl) (by kernel_rfl) (fun c a w h => hQ c _ _ _ w h) (Or.inl ⟨wanted_some rfl (by kernel_rfl) f48_96 (Nat.lt_of_le_of_lt (by decide) qz48), fun w hw => by simp only [execOp, pm_48, f48_9]; rfl⟩) (hk4 w4 hM4) ?_
  change wpAnyH _ _ _ _ _ _ _ (a0_48.put (some 100) (.int .i64 (ax : Int))) _
  obtain ⟨a0_49, ha49⟩ : ∃ rr : Act, rr = a0_48.put (some 100) (.int .i64 (ax : Int)) := ⟨_, rfl⟩
  have qz49 : 107 < a0_49.tmps.size := by rw [ha49, sz_put]; exact qz48
  have f49_4 : a0_49.eval (.tmp 4) = .pointer (some ⟨zb, 0, none⟩) := by rw [ha49, ev_other _ _ _ _ (by decide)]; exact f48_4
  have f49_8 : a0_49.eval (.tmp 8) = .pointer (some ⟨zk, 0, none⟩) := by rw [ha49, ev_other _ _ _ _ (by decide)]; exact f48_8
  have f49_96 : a0_49.eval (.tmp 96) = .bool false := by rw [ha49, ev_other _ _ _ _ (by decide)]; exact f48_96
  have f49_99 : a0_49.eval (.tmp 99) = .pointer (some ⟨pz, 0, none⟩) := by rw [ha49, ev_other _ _ _ _ (by decide)]; exact f48_99
  have f49_100 : a0_49.eval (.tmp 100) = .int .i64 (ax : Int) := by rw [ha49]; exact ev_same _ _ _ (Nat.lt_of_le_of_lt (by decide) qz48)
  rw [← ha49] at h0 ⊢
  clear ha49
  refine wpAnyH_take (i := 49) (oi := pm_49 s) (v := .pointer (some ⟨zb, ax, none⟩)) (by kernel_rfl) (by kernel_rfl) (by kernel_rfl) (by kernel_rfl) (fun c a w h => hQ c _ _ _ w h) (Or.inl ⟨wanted_some rfl (by kernel_rfl) f49_96 (Nat.lt_of_le_of_lt (by decide) qz49), fun w hw => run_ix2r rfl f49_4 f49_100 ha w⟩) (hk4 w4 hM4) ?_
  change wpAnyH _ _ _ _ _ _ _ (a0_49.put (some 101) (.pointer (some ⟨zb, ax, none⟩))) _
  obtain ⟨a0_50, ha50⟩ : ∃ rr : Act, rr = a0_49.put (some 101) (.pointer (some ⟨zb, ax, none⟩)) := ⟨_, rfl⟩
  have qz50 : 107 < a0_50.tmps.size := by rw [ha50, sz_put]; exact qz49
  have f50_8 : a0_50.eval (.tmp 8) = .pointer (some ⟨zk, 0, none⟩) := by rw [ha50, ev_other _ _ _ _ (by decide)]; exact f49_8
  have f50_96 : a0_50.eval (.tmp 96) = .bool false := by rw [ha50, ev_other _ _ _ _ (by decide)]; exact f49_96
  have f50_99 : a0_50.eval (.tmp 99) = .pointer (some ⟨pz, 0, none⟩) := by rw [ha50, ev_other _ _ _ _ (by decide)]; exact f49_99
  have f50_101 : a0_50.eval (.tmp 101) = .pointer (some ⟨zb, ax, none⟩) := by rw [ha50]; exact ev_same _ _ _ (Nat.lt_of_le_of_lt (by decide) qz49)
  rw [← ha50] at h0 ⊢
  clear ha50
  refine wpAnyH_take (i := 50) (oi := pm_50 s) (v := .pointer (some ⟨rz, 0, none⟩)) (by kernel_rfl) (by kernel_rfl) (by kernel_rfl) (by kernel_rfl) (fun c a w h => hQ c _ _ _ w h) (Or.inl ⟨wanted_some rfl (by kernel_rfl) f50_96 (Nat.lt_of_le_of_lt (by decide) qz50), fun w hw => run_load rfl f50_101 (load_pr hw.2.1)⟩) (hk4 w4 hM4) ?_
  change wpAnyH _ _ _ _ _ _ _ (a0_50.put (some 102) (.pointer (some ⟨rz, 0, none⟩))) _
  obtain ⟨a0_51, ha51⟩ : ∃ rr : Act, rr = a0_50.put (some 102) (.pointer (some ⟨rz, 0, none⟩)) := ⟨_, rfl⟩
  have qz51 : 107 < a0_51.tmps.size := by rw [ha51, sz_put]; exact qz50
  have f51_8 : a0_51.eval (.tmp 8) = .pointer (some ⟨zk, 0, none⟩) := by rw [ha51, ev_other _ _ _ _ (by decide)]; exact f50_8
  have f51_96 : a0_51.eval (.tmp 96) = .bool false := by rw [ha51, ev_other _ _ _ _ (by decide)]; exact f50_96
  have f51_99 : a0_51.eval (.tmp 99) = .pointer (some ⟨pz, 0, none⟩) := by rw [ha51, ev_other _ _ _ _ (by decide)]; exact f50_99
  have f51_102 : a0_51.eval (.tmp 102) = .pointer (some ⟨rz, 0, none⟩) := by rw [ha51]; exact ev_same _ _ _ (Nat.lt_of_le_of_lt (by decide) qz50)
  rw [← ha51] at h0 ⊢
  clear ha51
  refine wpAnyH_take (i := 51) (oi := pm_51 s) (v := keyV K5) (by kernel_rfl) (by kernel_rfl) (by kernel_rfl) (by kernel_rfl) (fun c a w h => hQ c _ _ _ w h) (Or.inl ⟨wanted_some rfl (by kernel_rfl) f51_96 (Nat.lt_of_le_of_lt (by decide) qz51), fun w hw => run_load rfl f51_8 hw.2.2.load⟩) (hk4 w4 hM4) ?_
  change wpAnyH _ _ _ _ _ _ _ (a0_51.put (some 103) (keyV K5)) _
  obtain ⟨a0_52, ha52⟩ : ∃ rr : Act, rr = a0_51.put (some 103) (keyV K5) := ⟨_, rfl⟩
  have qz52 : 107 < a0_52.tmps.size := by rw [ha52, sz_put]; exact qz51
  have f52_96 : a0_52.eval (.tmp 96) = .bool false := by rw [ha52, ev_other _ _ _ _ (by decide)]; exact f51_96
  have f52_99 : a0_52.eval (.tmp 99) = .pointer (some ⟨pz, 0, none⟩) := by rw [ha52, ev_other _ _ _ _ (by decide)]; exact f51_99
  have f52_102 : a0_52.eval (.tmp 102) = .pointer (some ⟨rz, 0, none⟩) := by rw [ha52, ev_other _ _ _ _ (by decide)]; exact f51_102
  have f52_103 : a0_52.eval (.tmp 103) = keyV K5 := by rw [ha52]; exact ev_same _ _ _ (Nat.lt_of_le_of_lt (by decide) qz51)
  rw [← ha52] at h0 ⊢
  clear ha52
  refine wpAnyH_take (i := 52) (oi := pm_52 s) (v := .agg (stL 9 false 0 K5 false).toArray) (by kernel_rfl) (by kernel_rfl) (by kernel_rfl) (by kernel_rfl) (fun c a w h => hQ c _ _ _ w h) (Or.inl ⟨wanted_some rfl (by kernel_rfl) f52_96 (Nat.lt_of_le_of_lt (by decide) qz52), fun w hw => bl4 s f52_103 w⟩) (hk4 w4 hM4) ?_
  change wpAnyH _ _ _ _ _ _ _ (a0_52.put (some 104) (.agg (stL 9 false 0 K5 false).toArray)) _
  obtain ⟨a0_53, ha53⟩ : ∃ rr : Act, rr = a0_52.put (some 104) (.agg (stL 9 false 0 K5 false).toArray) := ⟨_, rfl⟩
  have qz53 : 107 < a0_53.tmps.size := by rw [ha53, sz_put]; exact qz52
  have f53_96 : a0_53.eval (.tmp 96) = .bool false := by rw [ha53, ev_other _ _ _ _ (by decide)]; exact f52_96
  have f53_99 : a0_53.eval (.tmp 99) = .pointer (some ⟨pz, 0, none⟩) := by rw [ha53, ev_other _ _ _ _ (by decide)]; exact f52_99
  have f53_102 : a0_53.eval (.tmp 102) = .pointer (some ⟨rz, 0, none⟩) := by rw [ha53, ev_other _ _ _ _ (by decide)]; exact f52_102
  have f53_104 : a0_53.eval (.tmp 104) = .agg (stL 9 false 0 K5 false).toArray := by rw [ha53]; exact ev_same _ _ _ (Nat.lt_of_le_of_lt (by decide) qz52)
  rw [← ha53] at h0 ⊢
  clear ha53
  refine wpAnyH_ready (rs := [53]) (by kernel_rfl) (by simp) ?_
  refine AllReadyH.cons (o := pm_53 s) (by kernel_rfl) (fun KQ hKQ => ?_) AllReadyH.nil
  rw [if_pos (wanted_some rfl (by kernel_rfl) f53_96 (Nat.lt_of_le_of_lt (by decide) qz53))]
  refine step_enterE 7 #[.pointer (some ⟨pz, 0, none⟩), .pointer (some ⟨rz, 0, none⟩), .agg (stL 9 false 0 K5 false).toArray] (by rw [pm_enter53, f53_99, f53_102, f53_104]) (fun V w' => V = .bool true ∧ M5 w') ((hc5 w4 hM4).mono (fun e w' h => ⟨_, h.1, rfl, h.2⟩)) ?_
  rintro _ w5 ⟨rfl, hM5⟩
  refine hKQ.out _ _ (hk5 w5 hM5) (fun _ => ?_)
  clear hKQ KQ
  change wpAnyH _ _ _ _ _ _ _ (a0_53.put (some 105) (.bool true)) _
  have h0 := h0 w5 hM5
  obtain ⟨a0_54, ha54⟩ : ∃ rr : Act, rr = a0_53.put (some 105) (.bool true) := ⟨_, rfl⟩
  have qz54 : 107 < a0_54.tmps.size := by rw [ha54, sz_put]; exact qz53
  have f54_96 : a0_54.eval (.tmp 96) = .bool false := by rw [ha54, ev_other _ _ _ _ (by decide)]; exact f53_96
  have f54_105 : a0_54.eval (.tmp 105) = .bool true := by rw [ha54]; exact ev_same _ _ _ (Nat.lt_of_le_of_lt (by decide) qz53)
  rw [← ha54] at h0 ⊢
  clear ha54
  refine wpAnyH_take (i := 54) (oi := pm_54 s) (v := .bool false) (by kernel_rfl) (by kernel_rfl) (by kernel_rfl) (by kernel_rfl) (fun c a w h => hQ c _ _ _ w h) (Or.inl ⟨wanted_some rfl (by kernel_rfl) f54_96 (Nat.lt_of_le_of_lt (by decide) qz54), fun w hw => run_notT rfl f54_105 w⟩) (hk5 w5 hM5) ?_
  change wpAnyH _ _ _ _ _ _ _ (a0_54.put (some 106) (.bool false)) _
  obtain ⟨a0_55, ha55⟩ : ∃ rr : Act, rr = a0_54.put (some 106) (.bool false) := ⟨_, rfl⟩
  have qz55 : 107 < a0_55.tmps.size := by rw [ha55, sz_put]; exact qz54
  have f55_96 : a0_55.eval (.tmp 96) = .bool false := by rw [ha55, ev_other _ _ _ _ (by decide)]; exact f54_96
  have f55_106 : a0_55.eval (.tmp 106) = .bool false := by rw [ha55]; exact ev_same _ _ _ (Nat.lt_of_le_of_lt (by decide) qz54)
  rw [← ha55] at h0 ⊢
  clear ha55
  refine wpAnyH_take (i := 55) (oi := pm_55 s) (v := .bool false) (by kernel_rfl) (by kernel_rfl) (by kernel_rfl) (by kernel_rfl) (fun c a w h => hQ c _ _ _ w h) (Or.inl ⟨wanted_none rfl, fun w hw => run_pickF rfl f55_96 f55_106 w⟩) (hk5 w5 hM5) ?_
  change wpAnyH _ _ _ _ _ _ _ (a0_55.put (some 107) (.bool false)) _
  obtain ⟨a0_56, ha56⟩ : ∃ rr : Act, rr = a0_55.put (some 107) (.bool false) := ⟨_, rfl⟩
  have qz56 : 107 < a0_56.tmps.size := by rw [ha56, sz_put]; exact qz55
  rw [← ha56] at h0 ⊢
  clear ha56
  refine wpAnyH_done (by kernel_rfl) ?_ _
  exact h0
end Go.Proofs.Ytagnglkkmdeicaa
