/- IndexSweep: its state (pure, and in memory). -/
import Derived.Test.YtdigjpddmfolgaaID2
namespace Go.Proofs.Ytdigjpddmfolgaa
set_option linter.unusedVariables false
set_option linter.unusedSimpArgs false
namespace TX
open Go.RowKit Go.Sort
set_option maxRecDepth 100000

/-- At the head of a round: what is told, what is gone, what comes next. -/
structure SwP (E : List KY) (G : KY → Prop) (f : KY → Option EN) (told gone : List KY) (cur : Option KY) : Prop where
  dom : ∀ k, (f k).isSome → k ∈ E
  keep : ∀ x, G x → x ∈ gone ∨ (f x).isSome
  toldE : ∀ y ∈ told, y ∈ E
  nd : told.Nodup
  rise : ∀ c, cur = some c → c ∈ E ∧ ∀ y ∈ told, cmp y c < 0
  todo : ∀ x, G x → x ∈ gone ∨ x ∈ told ∨ ∃ c, cur = some c ∧ (x = c ∨ cmp c x < 0)
/-- Within a round, c told. -/
structure SwM (E : List KY) (G : KY → Prop) (f : KY → Option EN) (told gone : List KY) (c : KY) : Prop where
  dom : ∀ k, (f k).isSome → k ∈ E
  keep : ∀ x, G x → x ∈ gone ∨ (f x).isSome
  toldE : ∀ y ∈ told, y ∈ E
  nd : told.Nodup
  rise : ∀ y ∈ told, y = c ∨ cmp y c < 0
  todo : ∀ x, G x → x ∈ gone ∨ x ∈ told ∨ cmp c x < 0
section
variable {E told gone : List KY} {G : KY → Prop} {f : KY → Option EN} {cur : Option KY} {c k : KY}
theorem lst_fst {aft : KY} {any : Bool} {fo : Option (KY × EN)} (h : Lst aft any (fun k e => f k = some e) fo) : ∀ c, fo.map Prod.fst = some c → (f c).isSome ∧ okN aft any c ∧ ∀ k, (f k).isSome → okN aft any k → k = c ∨ cmp c k < 0 := by
  intro c hc
  cases fo with
  | none => cases hc
  | some y =>
    cases hc
    refine ⟨by rw [show f y.1 = some y.2 from h.1]; rfl, h.2.1, fun k hk hok => ?_⟩
    obtain ⟨e, he⟩ := Option.isSome_iff_exists.1 hk
    exact h.2.2 k e he hok
theorem lst_none {aft : KY} {any : Bool} (h : Lst aft any (fun k e => f k = some e) none) : ∀ k, (f k).isSome → ¬ okN aft any k := by
  intro k hk
  obtain ⟨e, he⟩ := Option.isSome_iff_exists.1 hk
  exact h k e he
theorem SwP.begin {fo : Option (KY × EN)} {aft : KY} (hE : ∀ k, (f k).isSome → k ∈ E) (h : Lst aft true (fun k e => f k = some e) fo) : SwP E (fun x => (f x).isSome) f [] [] (fo.map Prod.fst) := by
  refine ⟨hE, fun x hx => .inr hx, fun y hy => (by cases hy), List.nodup_nil, fun c hc => ⟨hE c (lst_fst h c hc).1, fun y hy => (by cases hy)⟩, fun x hx => .inr (.inr ?_)⟩
  cases fo with
  | none => exact absurd (.inl rfl) (lst_none h x hx)
  | some y => exact ⟨y.1, rfl, (lst_fst h y.1 rfl).2.2 x hx (.inl rfl)⟩
theorem SwP.enter (h : SwP E G f told gone (some c)) : SwM E G f (told ++ [c]) gone c := by
  obtain ⟨hc, hr⟩ := h.rise c rfl
  refine ⟨h.dom, h.keep, fun y hy => ?_, ?_, fun y hy => ?_, fun x hx => ?_⟩
  · rcases List.mem_append.1 hy with g | g
    · exact h.toldE y g
    · rw [List.mem_singleton.1 g]; exact hc
  · refine List.nodup_append.2 ⟨h.nd, by simp, fun a ha b hb e => ?_⟩
    have := hr a ha
    rw [e, List.mem_singleton.1 hb, cmp_self] at this
    omega
  · rcases List.mem_append.1 hy with g | g
    · exact .inr (hr y g)
    · exact .inl (List.mem_singleton.1 g)
  · rcases h.todo x hx with g | g | ⟨c', e, g⟩
    · exact .inl g
    · exact .inr (.inl (List.mem_append.2 (.inl g)))
    · cases e
      rcases g with g | g
      · exact .inr (.inl (List.mem_append.2 (.inr (by rw [g]; simp))))
      · exact .inr (.inr g)
theorem SwM.del (h : SwM E G f told gone c) : SwM E G (upd f k none) told (gone ++ [k]) c := by
  refine ⟨fun q hq => ?_, fun x hx => ?_, h.toldE, h.nd, h.rise, fun x hx => (h.todo x hx).imp (fun g => List.mem_append.2 (.inl g)) id⟩
  · by_cases e : q = k
    · rw [e, upd_same] at hq; cases hq
    · rw [upd_other f none e] at hq; exact h.dom q hq
  · by_cases e : x = k
    · exact .inl (List.mem_append.2 (.inr (by rw [e]; simp)))
    · rw [upd_other f none e]
      exact (h.keep x hx).imp (fun g => List.mem_append.2 (.inl g)) id
theorem SwM.put (h : SwM E G f told gone c) (hk : k ∈ E) (v : EN) : SwM E G (upd f k (some v)) told gone c := by
  refine ⟨fun q hq => ?_, fun x hx => ?_, h.toldE, h.nd, h.rise, h.todo⟩
  · by_cases e : q = k
    · rw [e]; exact hk
    · rw [upd_other f _ e] at hq; exact h.dom q hq
  · by_cases e : x = k
    · rw [e, upd_same]; exact .inr rfl
    · rw [upd_other f _ e]
      exact h.keep x hx
theorem upd_gone (hf : (f k).isSome = false) : upd f k none = f := by
  funext q
  by_cases e : q = k
  · rw [e, upd_same]
    cases h : f k with
    | none => rfl
    | some v => rw [h] at hf; cases hf
  · rw [upd_other f none e]
theorem SwM.leave {fo : Option (KY × EN)} (h : SwM E G f told gone c) (hl : Lst c false (fun k e => f k = some e) fo) : SwP E G f told gone (fo.map Prod.fst) := by
  refine ⟨h.dom, h.keep, h.toldE, h.nd, fun d hd => ?_, fun x hx => ?_⟩
  · obtain ⟨h1, h2, _⟩ := lst_fst hl d hd
    have hcd : cmp c d < 0 := by
      rcases h2 with e | e
      · cases e
      · have := cmp_neg c d; omega
    refine ⟨h.dom d h1, fun y hy => ?_⟩
    rcases h.rise y hy with e | e
    · rw [e]; exact hcd
    · exact cmp_trans e hcd
  · rcases h.todo x hx with g | g | g
    · exact .inl g
    · exact .inr (.inl g)
    · rcases h.keep x hx with q | q
      · exact .inl q
      · have hok : okN c false x := .inr (by have := cmp_neg c x; omega)
        cases fo with
        | none => exact absurd hok (lst_none hl x q)
        | some y => exact .inr (.inr ⟨y.1, rfl, (lst_fst hl y.1 rfl).2.2 x q hok⟩)
theorem SwP.bound (h : SwP E G f told gone cur) : told.length ≤ E.length := List.Nodup.length_le_of_subset h.nd h.toldE
theorem SwM.bound (h : SwM E G f told gone c) : told.length ≤ E.length := List.Nodup.length_le_of_subset h.nd h.toldE
end
/-- What lies in memory. -/
structure SwS (w0 W : World) (N : Nat) (v1 v2 : Value) (x : Nat) (L : List Tab) (f : KY → Option EN) (P : Nat) (tv : Value) (told : List KY) (gv : Value) (gone : List KY) : Prop where
  bel : Below N w0 W
  sx : Blk W N #[v1, v2] 54
  ix : IxL W x 16 L f P
  lowx : ∀ b, IxB x L b → N + 1 ≤ b
  td : OwnK W (N + 1) tv told
  gn : OwnK W (N + 1) gv gone
  ap : ∀ b, tv.ownBlock = some b → gv.ownBlock ≠ some b
/-- A block that an index does not have. -/
theorem blk_turn {W W' : World} {x : Nat} {L : List Tab} {f g : KY → Option EN} {P P' : Nat} (h : IxL W x 16 L f P) (hn : IxN W W' x L g P') {b : Nat} {cs : Array Value} {t : TypeId} (hb : Blk W b cs t) (e1 : t ≠ IT) (e2 : t ≠ TT) (e3 : t ≠ ST) : Blk W' b cs t :=
  (hn.fr.block _ hb.lt (h.notB hb e1 e2 e3)).trans hb
section
variable {w0 W W' : World} {N x P P' : Nat} {v1 v2 tv gv : Value} {L : List Tab} {f g : KY → Option EN} {told gone : List KY}
theorem SwS.lt (h : SwS w0 W N v1 v2 x L f P tv told gv gone) : N < W.heap.size := h.sx.lt
theorem SwS.below (h : SwS w0 W N v1 v2 x L f P tv told gv gone) (hb : Below W.heap.size W W') : SwS w0 W' N v1 v2 x L f P tv told gv gone :=
  ⟨h.bel.trans (hb.mono (by have := h.lt; omega)), h.sx.below hb h.lt, h.ix.below hb, h.lowx, h.td.below hb, h.gn.below hb, h.ap⟩
theorem OwnK.blk {w : World} {B : Nat} {v : Value} {V : List KY} (h : OwnK w B v V) {b : Nat} (hb : v.ownBlock = some b) : ∃ cs, Blk w b cs KT := by
  obtain ⟨h0, ⟨rfl, h2⟩ | ⟨g, cap, cur, rfl, hB, hh, hx⟩⟩ := h
  · cases hb
  · cases hb; exact ⟨cur, hh⟩
theorem SwS.turn (h : SwS w0 W N v1 v2 x L f P tv told gv gone) (hn : IxN W W' x L g P') : ∃ L', SwS w0 W' N v1 v2 x L' g P' tv told gv gone := by
  obtain ⟨L', h1, h2⟩ := hn.ex
  have hs := h.lt
  refine ⟨L', ⟨⟨hn.fr.os.trans h.bel.os, hn.fr.tape.trans h.bel.tape, hn.fr.output.trans h.bel.output, Nat.le_trans h.bel.size hn.fr.size, fun b hb => (hn.fr.block b (by omega) (fun e => by have := h.lowx b e; omega)).trans (h.bel.block b hb)⟩,
    blk_turn h.ix hn h.sx (by decide) (by decide) (by decide), h1, fun b hb => ?_,
    h.td.same (fun b hb => by obtain ⟨cs, hc⟩ := h.td.blk hb; exact (blk_turn h.ix hn hc (by decide) (by decide) (by decide)).trans hc.symm),
    h.gn.same (fun b hb => by obtain ⟨cs, hc⟩ := h.gn.blk hb; exact (blk_turn h.ix hn hc (by decide) (by decide) (by decide)).trans hc.symm), h.ap⟩⟩
  rcases h2 b hb with e | e
  · exact h.lowx b e
  · omega
/-- What a row's growing leaves. -/
theorem blk_push {w w' : World} {B : Nat} {v : Value} {V : List KY} (ho : OwnK w B v V) (hg : w.grownBy w' v.ownBlock) {b : Nat} {cs : Array Value} {t : TypeId} (hb : Blk w b cs t) (ht : t ≠ KT) : Blk w' b cs t :=
  hb.grown hg (fun e => by obtain ⟨c2, hc⟩ := ho.blk e.symm; exact blk_ne hb hc ht rfl)
theorem SwS.pushT (h : SwS w0 W N v1 v2 x L f P tv told gv gone) {tv' : Value} {k : KY} (ho : OwnK W' (N + 1) tv' (told ++ [k])) (hg : W.grownBy W' tv.ownBlock) (hv : tv'.ownBlock = tv.ownBlock ∨ tv'.ownBlock = some W.heap.size) : SwS w0 W' N v1 v2 x L f P tv' (told ++ [k]) gv gone := by
  have hs := h.lt
  refine ⟨⟨hg.os.trans h.bel.os, hg.tape.trans h.bel.tape, hg.output.trans h.bel.output, Nat.le_trans h.bel.size hg.size, fun b hb => (hg.block b (by omega) (fun e => by have := (h.td.lt e.symm).2; omega)).trans (h.bel.block b hb)⟩,
    blk_push h.td hg h.sx (by decide), h.ix.same (fun b hb => hg.block b (h.ix.lt hb) (fun e => ?_)), h.lowx, ho, h.gn.same (fun b hb => hg.block b (h.gn.lt hb).1 (fun e => h.ap b e.symm hb)), fun b hb => ?_⟩
  · obtain ⟨cs, hc⟩ := h.td.blk e.symm
    exact h.ix.notB hc (by decide) (by decide) (by decide) hb
  · rcases hv with e | e
    · exact h.ap b (e ▸ hb)
    · intro hb2
      have h3 := (h.gn.lt hb2).1
      rw [e] at hb
      have := Option.some.inj hb
      omega
theorem SwS.pushG (h : SwS w0 W N v1 v2 x L f P tv told gv gone) {gv' : Value} {k : KY} (ho : OwnK W' (N + 1) gv' (gone ++ [k])) (hg : W.grownBy W' gv.ownBlock) (hv : gv'.ownBlock = gv.ownBlock ∨ gv'.ownBlock = some W.heap.size) : SwS w0 W' N v1 v2 x L f P tv told gv' (gone ++ [k]) := by
  have hs := h.lt
  refine ⟨⟨hg.os.trans h.bel.os, hg.tape.trans h.bel.tape, hg.output.trans h.bel.output, Nat.le_trans h.bel.size hg.size, fun b hb => (hg.block b (by omega) (fun e => by have := (h.gn.lt e.symm).2; omega)).trans (h.bel.block b hb)⟩,
    blk_push h.gn hg h.sx (by decide), h.ix.same (fun b hb => hg.block b (h.ix.lt hb) (fun e => ?_)), h.lowx, h.td.same (fun b hb => hg.block b (h.td.lt hb).1 (fun e => h.ap b hb e.symm)), ho, fun b hb hb2 => ?_⟩
  · obtain ⟨cs, hc⟩ := h.gn.blk e.symm
    exact h.ix.notB hc (by decide) (by decide) (by decide) hb
  · rcases hv with e | e
    · exact h.ap b hb (e ▸ hb2)
    · have h3 := (h.td.lt hb).1
      rw [e] at hb2
      have := Option.some.inj hb2
      omega
end
/-- Rows of keys in a row. -/
def ChR (w : World) (v : Value) (CH : List (List KY)) : Prop := ∃ ao c, v = .slice ao CH.length c ∧ (0 < CH.length → ∃ h so, ao = some ⟨h, so, none⟩ ∧ ∀ (j : Nat) (K : List KY), CH[j]? = some K → ∃ u, w.cell? ⟨h, so + j, none⟩ = some u ∧ KsR w u K)
theorem ChR.below {w w' : World} {v : Value} {CH : List (List KY)} (h : ChR w v CH) (hb : Below w.heap.size w w') : ChR w' v CH := by
  obtain ⟨ao, c, e, hr⟩ := h
  refine ⟨ao, c, e, fun hp => ?_⟩
  obtain ⟨h0, so, e2, h3⟩ := hr hp
  refine ⟨h0, so, e2, fun j K hj => ?_⟩
  obtain ⟨u, h4, h5⟩ := h3 j K hj
  exact ⟨u, (hb.cell (World.block_lt_of_cell? w _ h4)).trans h4, h5.below hb⟩
end TX
end Go.Proofs.Ytdigjpddmfolgaa
