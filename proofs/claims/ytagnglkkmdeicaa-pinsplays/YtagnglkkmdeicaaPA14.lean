/- PinsPlays: the queries of both sides tell the same. -/
import Derived.Test.YtagnglkkmdeicaaPA13
namespace Go.Proofs.Ytagnglkkmdeicaa
set_option linter.unusedVariables false
set_option linter.unusedSimpArgs false
open Go.RowKit Go.Shelf
set_option maxRecDepth 100000

def stL (dd : Int) (ot : Bool) (s : Int) (x : List UInt8) (al : Bool) : List Value := .int .i64 dd :: .bool ot :: .int .i64 s :: (x.map u8c ++ [.bool al])
structure StAt (W : World) (zx : Nat) (dd s : Int) (x : List UInt8) (al : Bool) : Prop where
  c0 : W.cell? ⟨zx, 0, none⟩ = some (.int .i64 dd)
  c2 : W.cell? ⟨zx, 2, none⟩ = some (.int .i64 s)
  key : W.rangeAt zx 3 (x.map u8c)
  c35 : W.cell? ⟨zx, 35, none⟩ = some (.bool al)
theorem StAt.below {W W' : World} {zx : Nat} {dd s : Int} {x : List UInt8} {al : Bool} (h : StAt W zx dd s x al) (hb : Below W.heap.size W W') : StAt W' zx dd s x al := ⟨cellB hb h.c0, cellB hb h.c2, rangeAt_belowK h.key hb, cellB hb h.c35⟩
theorem StAt.chg {W W' : World} {T : Nat → Prop} {zx : Nat} {dd s : Int} {x : List UInt8} {al : Bool} (h : StAt W zx dd s x al) (hc : Chg T W W') (hz : ¬ T zx) : StAt W' zx dd s x al := by
  have hk : ∀ o v, W.cell? ⟨zx, o, none⟩ = some v → W'.cell? ⟨zx, o, none⟩ = some v := fun o v hv => by
    rw [← hv]
    unfold World.cell?
    simp only
    rw [hc.block zx (World.block_lt_of_cell? W _ hv) hz]
  exact ⟨hk _ _ h.c0, hk _ _ h.c2, fun j v hj => hk _ _ (h.key j v hj), hk _ _ h.c35⟩
theorem StAt.made (w : World) (dd : Int) (ot : Bool) (s : Int) (x : List UInt8) (al : Bool) (hx : x.length = 32) : StAt (w.alloc (.cells (stL dd ot s x al).toArray 32)) w.heap.size dd s x al := by
  have hB := Blk.made w (stL dd ot s x al).toArray 32
  refine ⟨by rw [hB.cell]; rfl, by rw [hB.cell]; rfl, fun j v hj => ?_, ?_⟩
  · rw [hB.cell, List.getElem?_toArray, Nat.add_comm]
    show (x.map u8c ++ [Value.bool al])[j]? = some v
    rw [List.getElem?_append_left (List.getElem?_eq_some_iff.1 hj).1]
    exact hj
  · rw [hB.cell, List.getElem?_toArray]
    show (x.map u8c ++ [Value.bool al])[32]? = _
    rw [List.getElem?_append_right (by simp [hx]), List.length_map, hx]
    rfl
section
variable {w : World} {zp zr n : Nat} {os : List (Option SesV)} {D : List RfV}
theorem One.open' (h : One w zp zr os D n) (s : Int) : (sel os s).isSome = opD D s := by
  rcases h.cases s with ⟨h1, h2⟩ | ⟨k, d, v, rfl, hk, hd, ho, a1, _⟩
  · rw [h1, h2]; rfl
  · rw [opD_in hk hd, sel_in hk a1, ho]; rfl
theorem One.keys (h : One w zp zr os D n) (s : Int) : ∀ x, x ∈ keysO (sel os s) ↔ x ∈ keysD D s := fun x => by
  rcases h.cases s with ⟨h1, h2⟩ | ⟨k, d, v, rfl, hk, hd, ho, a1, a2, a3, a4, _⟩
  · rw [h2, keysD_no h1]; rfl
  · rw [keysD_yes hk hd ho, sel_in hk a1, a4 x]; rfl
theorem One.has (h : One w zp zr os D n) (s : Int) (x : List UInt8) : hasO (sel os s) x = decide (x ∈ keysD D s) := by
  unfold hasO
  rw [decide_eq_decide]
  exact h.keys s x
theorem One.cnt (h : One w zp zr os D n) (x : List UInt8) : ∀ m, cnt os x m = cntD D x m
  | 0 => rfl
  | m + 1 => by rw [Proofs.Ytagnglkkmdeicaa.cnt, cntD, h.cnt x m, h.has]
theorem One.l32 (h : One w zp zr os D n) (s : Int) : ∀ x ∈ keysD D s, x.length = 32 := fun x hx => by
  rcases h.cases s with ⟨h1, h2⟩ | ⟨k, d, v, rfl, hk, hd, ho, _⟩
  · rw [keysD_no h1] at hx; cases hx
  · rw [keysD_yes hk hd ho] at hx
    exact (h.r.row k d hd).len x hx
theorem leastN_unique {V V' : List UInt8 → Prop} {after k k' : List UInt8} {any ok ok' : Bool} (hv : ∀ x, V x ↔ V' x) (h : LeastN V after any k ok) (h' : LeastN V' after any k' ok') : k = k' ∧ ok = ok' := by
  rcases h with ⟨a1, a2, a3, a4⟩ | ⟨a1, a2, a3⟩
  · rcases h' with ⟨b1, b2, b3, b4⟩ | ⟨b1, b2, b3⟩
    · refine ⟨cmpK_zero k k' ?_, by rw [a1, b1]⟩
      have h1 := a4 k' ((hv k').2 b2) b3
      have h2 := b4 k ((hv k).1 a2) a3
      have := cmpK_neg k k'
      omega
    · exact absurd a3 (b3 k ((hv k).1 a2))
  · rcases h' with ⟨b1, b2, b3, b4⟩ | ⟨b1, b2, b3⟩
    · exact absurd b3 (a3 k' ((hv k').2 b2))
    · exact ⟨by rw [a2, b2], by rw [a1, b1]⟩
theorem rnext_any (h : One w zp zr os D n) (hn : n ≤ 4398046510976) (s : Int) (x : List UInt8) (any : Bool) (hx : x.length = 32) : Calls Try.prog 40 #[.pointer (some ⟨zr, 0, none⟩), .int .i64 s, keyV x, .bool any] w (RNextC w (keysD D s) x any) := by
  rcases h.cases s with ⟨h1, h2⟩ | ⟨k, d, v, rfl, hk, hd, ho, a1, a2, a3, a4, _⟩
  · rw [keysD_no h1]; exact rnext_no w zr D s x any hx h.r h1
  · rw [keysD_yes hk hd ho]
    exact rnext_yes w zr D k d x any hk hx h.r hd ho (by have := h.rel.few k d hd; omega) a3
def busyD (D : List RfV) (s : Int) : Nat := if opD D s = true then ((D[s.toNat]?).map (·.busy)).getD 0 else 0
theorem rbusy_any (h : One w zp zr os D n) (s : Int) : Calls Try.prog 39 #[.pointer (some ⟨zr, 0, none⟩), .int .i64 s] w fun e w' => e = .returned (.int .i64 (busyO (sel os s) : Nat)) ∧ Below w.heap.size w w' := by
  rcases h.cases s with ⟨h1, h2⟩ | ⟨k, d, v, rfl, hk, hd, ho, a1, a2, _⟩
  · rw [h2]; exact drop_eq (rbusy_no w zr D s h.r h1)
  · rw [sel_in hk a1]
    show Calls _ _ _ _ fun e w' => e = .returned (.int .i64 ((v.busy : Nat) : Int)) ∧ _
    rw [a2]
    exact drop_eq (rbusy_yes w zr D k d hk h.r hd ho)
theorem rcount_one (h : One w zp zr os D n) (hn : n ≤ 4398046510976) (x : List UInt8) (hx : x.length = 32) : Calls Try.prog 41 #[.pointer (some ⟨zr, 0, none⟩), keyV x] w fun e w' => e = .returned (.int .i64 (cnt os x 16 : Nat)) ∧ Below w.heap.size w w' := by
  rw [h.cnt x 16]
  exact rcount_any w zr D x hx h.r (fun k d e => Nat.le_trans (h.rel.few k d e) hn)
theorem rhas_one (h : One w zp zr os D n) (hn : n ≤ 4398046510976) (s : Int) (x : List UInt8) (hx : x.length = 32) : Calls Try.prog 38 #[.pointer (some ⟨zr, 0, none⟩), .int .i64 s, keyV x] w fun e w' => e = .returned (.bool (hasO (sel os s) x)) ∧ Below w.heap.size w w' := by
  rw [h.has s x]
  exact rhas_any w zr D s x hx h.r (fun k d e => Nat.le_trans (h.rel.few k d e) hn)
/-- What Sessions of both tell. -/
theorem ses_p (h : One w zp zr os D n) (hn : n ≤ 4398046510976) : Calls Try.prog 27 #[.pointer (some ⟨zp, 0, none⟩)] w (SesC w (fD D)) := by
  have hf : ∀ k : Nat, k < 16 → fO os (fun k => keysD D (k : Int)) k = fD D k := fun k hk => by
    obtain ⟨d, hd⟩ := h.at' hk
    unfold fO fD
    rw [hd]
    cases ho : d.op with
    | false =>
      obtain ⟨q, _⟩ := h.rel.shut k d hk hd ho
      rw [sel_in hk q]
      simp [ho]
    | true =>
      obtain ⟨v, a1, a2, _⟩ := h.rel.open' k d hk hd ho
      rw [sel_in hk a1]
      simp [ho, a2, keysD_yes hk hd ho]
  have ht : ∀ m, m ≤ 16 → tellT (fO os (fun k => keysD D (k : Int))) m = tellT (fD D) m := by
    intro m
    induction m with
    | zero => intro _; rfl
    | succ m ih => intro hm; rw [tellT, tellT, ih (by omega), hf m (by omega)]
  refine (psessions_any w zp os (fun k => keysD D (k : Int)) h.p (fun k v hk hs => ?_)).mono ?_
  · obtain ⟨k', e1, _, hk'⟩ := sel_some hs
    have e2 : k = k' := by omega
    subst e2
    obtain ⟨d, hd⟩ := h.at' hk
    cases ho : d.op with
    | false =>
      obtain ⟨q, _⟩ := h.rel.shut k d hk hd ho
      rw [hk'] at q; cases q
    | true =>
      obtain ⟨v', a1, a2, a3, a4, a5, a6⟩ := h.rel.open' k d hk hd ho
      rw [hk'] at a1
      cases a1
      refine ⟨by rw [keysD_yes hk hd ho]; exact a3, fun x => ?_, by omega⟩
      show x ∈ keysD D (k : Int) ↔ _
      rw [keysD_yes hk hd ho]
      exact ⟨fun q => ⟨(h.r.row k d hd).len x q, (a4 x).1 q⟩, fun q => (a4 x).2 q.2⟩
  · rintro e w' ⟨v, E, he, h1, h2, h3⟩
    exact ⟨v, E, he, h1, by rw [h2]; exact ht 16 (Nat.le_refl _), h3⟩
theorem ses_r (h : One w zp zr os D n) (hn : n ≤ 4398046510976) : Calls Try.prog 42 #[.pointer (some ⟨zr, 0, none⟩)] w (SesC w (fD D)) := by
  refine rsessions_any w zr D h.r (fun k d e => Nat.le_trans (h.rel.few k d e) hn) h.rel.none' (fun k d e a ea => ?_)
  have hr := h.r.row k d e
  cases hL : d.L with
  | nil =>
    obtain ⟨q, _⟩ := h.rel.none' k d e hL
    rw [q] at ea; cases ea
  | cons y r =>
    rw [hL] at hr
    obtain ⟨g, o, e2, hra⟩ := hr.at' 0 (by simp)
    rw [ea] at e2
    cases e2
    have hl := hr.len y (by simp)
    cases y with
    | nil => simp at hl
    | cons b q => exact World.block_lt_of_cell? w _ (hra 0 (u8c b) rfl)
end
/-- The blocks of a row of sessions. -/
def OwnT (v : Value) (E : List SeV) (i : Nat) : Prop := v.ownBlock = some i ∨ ∃ e ∈ E, ∃ a : Addr, e.ka = some a ∧ a.block = i
theorem LstS.inb {W : World} {B : Nat} {v : Value} {E : List SeV} (h : LstS W B v E) {i : Nat} (hi : OwnT v E i) : B ≤ i ∧ i < W.heap.size := by
  rcases hi with hi | ⟨e, he, a, ea, rfl⟩
  · obtain ⟨h0, ⟨h1, _⟩ | ⟨g, cap, cur, h1, hb, hh, _⟩⟩ := h.own
    · rw [h1] at hi; cases hi
    · rw [h1] at hi
      cases hi
      exact ⟨hb, Blk.lt (cs := cur) (t := 80) hh⟩
  · have := ownQ_lt (h.keys e he) ea
    exact ⟨this.2, this.1⟩
theorem own_chg {W W' : World} {T : Nat → Prop} {B s n : Nat} {t : TypeId} {v : Value} {ys : List Value} (h : W.ownsRow B t s v n ys) (hc : Chg T W W') (ht : ∀ i, v.ownBlock = some i → ¬ T i) : W'.ownsRow B t s v n ys := by
  obtain ⟨h0, h1 | ⟨g, cap, cur, rfl, hg, hh, hr⟩⟩ := h
  · exact ⟨h0, .inl h1⟩
  · exact ⟨h0, .inr ⟨g, cap, cur, rfl, hg, (hc.block g (Blk.lt (cs := cur) (t := t) hh) (ht g rfl)).trans hh, hr⟩⟩
theorem LstS.chg {W W' : World} {T : Nat → Prop} {B : Nat} {v : Value} {E : List SeV} (h : LstS W B v E) (hc : Chg T W W') (ht : ∀ i, OwnT v E i → ¬ T i) : LstS W' B v E := by
  refine ⟨own_chg h.own hc (fun i hi => ht i (.inl hi)), fun e he => own_chg (h.keys e he) hc (fun i hi => ?_), h.up, h.l32⟩
  cases ha : e.ka with
  | none => rw [ha] at hi; cases hi
  | some a => exact ht i (.inr ⟨e, he, a, ha, by rw [ha, ownQ_block (h.keys e he) ha] at hi; exact Option.some.inj hi⟩)
end Go.Proofs.Ytagnglkkmdeicaa
