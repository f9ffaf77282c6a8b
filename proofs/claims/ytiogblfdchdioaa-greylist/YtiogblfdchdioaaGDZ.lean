/- The law: a list and the document's beside each other. -/
import Derived.Test.YtiogblfdchdioaaGDY
namespace Go.Proofs.Ytiogblfdchdioaa
set_option linter.unusedVariables false
set_option linter.unusedSimpArgs false
namespace RG
open Go.RowKit
set_option maxRecDepth 100000

abbrev GM : Nat := 3518437208000
/-- A list and the document's, in memory. -/
structure GrS (w : World) (N : Nat) (W : World) (z q : Nat) (V1 V2 : List EL) : Prop where
  ex : ∃ g B v, RgAt W z g LT GM V1 ∧ RlAt W q B v V2 ∧ w.heap.size ≤ g ∧ w.heap.size ≤ B ∧ g ≠ q ∧ (∀ b, v.ownBlock = some b → b ≠ z ∧ b ≠ g) ∧ ∀ i, N ≤ i → i < N + 3 → i ≠ g ∧ v.ownBlock ≠ some i
  lz : w.heap.size ≤ z
  lq : w.heap.size ≤ q
  ne : z ≠ q
  bel : Below w.heap.size w W
theorem GrS.keep {w W W' : World} {N z q : Nat} {V1 V2 : List EL} (h : GrS w N W z q V1 V2) (hb : Below W.heap.size W W') : GrS w N W' z q V1 V2 := by
  obtain ⟨⟨g, B, v, h1, h2, h3⟩, h4, h5, h6, h7⟩ := h
  exact ⟨⟨g, B, v, h1.below hb, h2.below hb, h3⟩, h4, h5, h6, h7.trans (hb.mono h7.size)⟩
theorem GrS.lt {w W : World} {N z q : Nat} {V1 V2 : List EL} (h : GrS w N W z q V1 V2) : z < W.heap.size ∧ q < W.heap.size := by
  obtain ⟨⟨g, B, v, h1, h2, h3⟩, h4, h5, h6, h7⟩ := h
  exact ⟨h1.lt.1, h2.blk.lt⟩
/-- What is made from now on lies apart. -/
theorem GrS.renew {w W : World} {N z q : Nat} {V1 V2 : List EL} (h : GrS w N W z q V1 V2) : GrS w W.heap.size W z q V1 V2 := by
  obtain ⟨⟨g, B, v, h1, h2, hg, hB, hgq, hv, _⟩, hz, hq, hne, hw⟩ := h
  refine ⟨⟨g, B, v, h1, h2, hg, hB, hgq, hv, fun i hi _ => ⟨fun e => ?_, fun e => ?_⟩⟩, hz, hq, hne, hw⟩
  · have := h1.lt.2
    omega
  · have := (h2.own.lt e).1
    omega
theorem GrS.p {w W0 W : World} {N z q : Nat} {V V1 V2 : List EL} {f : FuncId} {args : Array Value} {X : Ending} (h : GrS w N W0 z q V V2) (hN : N = W0.heap.size) (hs : N + 3 ≤ W.heap.size) (hb : Below W0.heap.size W0 W) (hc : ∀ g, RgAt W z g LT GM V → Calls Try.prog f args W fun e W' => e = X ∧ RgS W W' z g LT GM V1) :
    Calls Try.prog f args W fun e W' => e = X ∧ GrS w N W' z q V1 V2 ∧ Frm W W' (fun k => k < N) := by
  obtain ⟨⟨g, B, v, h1, h2, hg, hB, hgq, hv, hoff⟩, hz, hq, hne, hw⟩ := h
  have hlt := h1.lt
  refine (hc g (h1.below hb)).mono (fun e W' ⟨he, ⟨g', k1, k2⟩, fr⟩ => ⟨he, ⟨⟨g', B, v, k1, ?_, ?_, hB, ?_, ?_, ?_⟩, hz, hq, hne, ?_⟩, fr.wide (fun i _ e => by rcases e with e | e <;> omega)⟩)
  · have r2 := h2.below hb
    refine ⟨fr.blk r2.blk (fun e => ?_), r2.own.same (fun b e => fr.block b (r2.own.lt e).1 (fun e2 => ?_))⟩
    · rcases e with e | e
      · exact hne e.symm
      · exact hgq e.symm
    · have := hv b e
      rcases e2 with e2 | e2
      · exact this.1 e2
      · exact this.2 e2
  · have := hw.size
    have := hb.size
    rcases k2 with e | e <;> omega
  · have := h2.blk.lt
    have := hb.size
    rcases k2 with e | e
    · rw [e]; exact hgq
    · omega
  · intro b e
    have h3 := hv b e
    have h4 := (h2.own.lt e).1
    have := hb.size
    refine ⟨h3.1, ?_⟩
    rcases k2 with e2 | e2
    · rw [e2]; exact h3.2
    · omega
  · intro i hi hi2
    refine ⟨?_, (hoff i hi hi2).2⟩
    rcases k2 with e2 | e2
    · rw [e2]; exact (hoff i hi hi2).1
    · omega
  · have s := hb.size
    have s2 := hw.size
    exact (hw.trans (hb.mono s2)).trans (fr.below (by omega) (fun k e => by rcases e with e | e <;> omega))
theorem GrS.pq {w W0 W : World} {N z q : Nat} {V V2 : List EL} {f : FuncId} {args : Array Value} {X : Ending} (h : GrS w N W0 z q V V2) (hb : Below W0.heap.size W0 W) (hc : ∀ g, RgAt W z g LT GM V → Calls Try.prog f args W fun e W' => e = X ∧ Below W.heap.size W W') :
    Calls Try.prog f args W fun e W' => e = X ∧ GrS w N W' z q V V2 ∧ Frm W W' (fun k => k < N) := by
  have h' := h.keep hb
  obtain ⟨g, B, v, h1, _⟩ := h'.ex
  exact (hc g h1).mono (fun e W' ⟨he, k⟩ => ⟨he, h'.keep k, Frm.of_below k⟩)
theorem GrS.r {w W : World} {z q N : Nat} {V1 V V2 : List EL} {f : FuncId} {args : Array Value} {X : Ending} (h : GrS w N W z q V1 V) (hN : q < N) (hs : N + 3 ≤ W.heap.size) (hc : ∀ B v, RlAt W q B v V → Calls Try.prog f args W fun e W' => e = X ∧ DocS W W' q V2) :
    Calls Try.prog f args W fun e W' => e = X ∧ GrS w N W' z q V1 V2 ∧ Frm W W' (fun k => k < N) := by
  obtain ⟨⟨g, B, v, h1, h2, hg, hB, hgq, hv, hoff⟩, hz, hq, hne, hw⟩ := h
  have hlt := h1.lt
  refine (hc B v h2).mono (fun e W' ⟨he, ⟨v', k1⟩, fr⟩ => ⟨he, ⟨⟨g, W.heap.size, v', h1.same (fr.block _ hlt.1 hne) (fr.block _ hlt.2 hgq), k1, hg, hw.size, hgq, fun b e => ?_, fun i hi hi2 => ⟨(hoff i hi hi2).1, fun e => ?_⟩⟩, hz, hq, hne, hw.trans (fr.below hw.size (fun k e => by omega))⟩, fr.wide (fun i _ e => by omega)⟩)
  · have := (k1.own.lt e).2
    omega
  · have := (k1.own.lt e).2
    omega
theorem GrS.rq {w W : World} {z q N : Nat} {V1 V : List EL} {f : FuncId} {args : Array Value} {X : Ending} (h : GrS w N W z q V1 V) (hc : ∀ B v, RlAt W q B v V → Calls Try.prog f args W fun e W' => e = X ∧ Below W.heap.size W W') :
    Calls Try.prog f args W fun e W' => e = X ∧ GrS w N W' z q V1 V ∧ Frm W W' (fun k => k < N) := by
  obtain ⟨g, B, v, h1, h2, _⟩ := h.ex
  exact (hc B v h2).mono (fun e W' ⟨he, k⟩ => ⟨he, h.keep k, Frm.of_below k⟩)
/-- A store into one of the three boxes. -/
theorem GrS.box {w W W' : World} {N z q b : Nat} {V1 V2 : List EL} (h : GrS w N W z q V1 V2) (hg : W.grownBy W' (some b)) (hb : N ≤ b) (hb2 : b < N + 3) (hz : z < N) (hq : q < N) (hw : w.heap.size ≤ N) : GrS w N W' z q V1 V2 := by
  obtain ⟨⟨g, B, v, h1, h2, x1, x2, x3, x4, hoff⟩, h4, h5, h6, h7⟩ := h
  obtain ⟨y1, y2⟩ := hoff b hb hb2
  refine ⟨⟨g, B, v, h1.same (hg.block _ h1.lt.1 (fun e => ?_)) (hg.block _ h1.lt.2 (fun e => y1 (Option.some.inj e).symm)), ⟨Blk.grown h2.blk hg (fun e => ?_), h2.own.same (fun i e => hg.block _ (h2.own.lt e).1 (fun e2 => y2 (by rw [e]; exact e2)))⟩, x1, x2, x3, x4, hoff⟩, h4, h5, h6, h7.grown hg h7.size (fun k e => by have := Option.some.inj e; omega)⟩
  · have := Option.some.inj e
    omega
  · have := Option.some.inj e
    omega
/-- Every number is one of 64 bits. -/
def OkV (V : List EL) : Prop := ∀ x ∈ V, -9223372036854775808 ≤ x.nxt ∧ x.nxt ≤ 9223372036854775807
theorem OkV.bump {x : EL} (h : -9223372036854775808 ≤ x.nxt ∧ x.nxt ≤ 9223372036854775807) : -9223372036854775808 ≤ (bumpE x).nxt ∧ (bumpE x).nxt ≤ 9223372036854775807 := by
  unfold bumpE
  simp only
  split <;> omega
/-- What a kind of call does on both sides. -/
structure Pair (w W0 : World) (z q : Nat) (V : List EL) (fp fr : FuncId) (ap ar : Array Value) (X : Ending) (V1 : List EL) : Prop where
  p : ∀ W, W0.heap.size + 3 ≤ W.heap.size → Below W0.heap.size W0 W → Calls Try.prog fp ap W fun e W' => e = X ∧ GrS w W0.heap.size W' z q V1 V ∧ Frm W W' (fun k => k < W0.heap.size)
  r : ∀ W, W0.heap.size + 3 ≤ W.heap.size → GrS w W0.heap.size W z q V1 V → Calls Try.prog fr ar W fun e W' => e = X ∧ GrS w W0.heap.size W' z q V1 V1 ∧ Frm W W' (fun k => k < W0.heap.size)
section
variable {w W0 : World} {z q : Nat} {V : List EL}
theorem pair_push (h : GrS w W0.heap.size W0 z q V V) (hl : V.length < GM) (ks : List UInt8) (hks : ks.length = 32) : Pair w W0 z q V 18 20 #[.pointer (some ⟨z, 0, none⟩), .agg (kA ks)] #[.pointer (some ⟨q, 0, none⟩), .agg (kA ks)] (.returned (.tuple #[])) (V ++ [greyOf ks hks]) :=
  ⟨fun W hs hb => h.p rfl hs hb (fun g hg => lpush_any hg (Nat.le_of_lt hl) (by decide) ks hks), fun W hs hW => hW.r h.lt.2 hs (fun B v hv => rpush_any hv (Nat.le_of_lt hl) ks hks)⟩
theorem pair_bump (h : GrS w W0.heap.size W0 z q V V) (hl : V.length ≤ GM) (ho : OkV V) (bot : Bool) : ∃ x ok V1, OkV V1 ∧ V1.length ≤ V.length ∧ Pair w W0 z q V 23 24 #[.pointer (some ⟨z, 0, none⟩), .bool bot] #[.pointer (some ⟨q, 0, none⟩), .bool bot] (.returned (.tuple #[elV x, .bool ok])) V1 := by
  cases hx : endV bot V with
  | none => exact ⟨elZ, false, V, ho, Nat.le_refl _, fun W _ hb => h.pq hb (fun g hg => lbump_no hg (by decide) bot hx), fun W _ hW => hW.rq (fun B v hv => rbump_no hv hl bot hx)⟩
  | some x =>
    have hm : x ∈ V := by rw [endV_at] at hx; exact List.mem_of_getElem? hx
    refine ⟨bumpE x, true, V.set (endI bot V) (bumpE x), fun y hy => ?_, by simp, fun W hs hb => h.p rfl hs hb (fun g hg => lbump_yes hg (by decide) bot x hx (ho x hm)), fun W hs hW => hW.r h.lt.2 hs (fun B v hv => rbump_yes hv hl bot x hx (ho x hm))⟩
    rcases List.mem_or_eq_of_mem_set hy with e | e
    · exact ho y e
    · rw [e]; exact OkV.bump (ho x hm)
theorem pair_pop (h : GrS w W0.heap.size W0 z q V V) (hl : V.length ≤ GM) (ho : OkV V) (bot : Bool) : ∃ x ok V1, OkV V1 ∧ V1.length ≤ V.length ∧ Pair w W0 z q V 25 26 #[.pointer (some ⟨z, 0, none⟩), .bool bot] #[.pointer (some ⟨q, 0, none⟩), .bool bot] (.returned (.tuple #[elV x, .bool ok])) V1 := by
  cases V with
  | nil => exact ⟨elZ, false, [], ho, Nat.le_refl _, fun W _ hb => h.pq hb (fun g hg => lpop_no hg bot), fun W _ hW => hW.rq (fun B v hv => rpop_none hv bot)⟩
  | cons y T =>
    cases bot with
    | true => exact ⟨y, true, T, fun x hx => ho x (List.mem_cons_of_mem _ hx), by simp, fun W hs hb => h.p rfl hs hb (fun g hg => lpop_yes y true hg (by decide)), fun W hs hW => hW.r h.lt.2 hs (fun B v hv => rpopB_any y hv hl)⟩
    | false =>
      obtain ⟨U, u, e⟩ : ∃ U u, y :: T = U ++ [u] := ⟨_, _, (List.dropLast_concat_getLast (l := y :: T) (by simp)).symm⟩
      rw [e] at h hl ho ⊢
      exact ⟨u, true, U, fun x hx => ho x (by simp [hx]), by simp, fun W hs hb => h.p rfl hs hb (fun g hg => lpop_yes u false hg (by decide)), fun W hs hW => hW.r h.lt.2 hs (fun B v hv => rpopT_any u hv hl)⟩
end
end RG
end Go.Proofs.Ytiogblfdchdioaa
