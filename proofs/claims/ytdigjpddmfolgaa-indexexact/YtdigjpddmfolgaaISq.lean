/- IndexExact: the law. -/
import Derived.Test.YtdigjpddmfolgaaISp
import Derived.Test.YtdigjpddmfolgaaRows
import Derived.ChangeSame
import Derived.ChangeVars
import Derived.JoinedOf
import Derived.RowKit
import Derived.ProofKit
import Derived.OpenShut
import Derived.ChangeOld
import Derived.SizedLaws
import Derived.JoinedCond
import Derived.Deep.CondSized
import Derived.Deep.Slices
import Derived.Deep.Strs
import Derived.Lib.SmallJoins
namespace Go.Proofs.Ytdigjpddmfolgaa
set_option linter.unusedVariables false
set_option linter.unusedSimpArgs false
namespace TX
open Go.RowKit Go.Sort
set_option maxRecDepth 100000
set_option maxHeartbeats 32000000

/-- A script that came in. -/
def SpR (w : World) (v : Value) (SC : List SP) : Prop := ∃ ao c, v = .slice ao SC.length c ∧ (0 < SC.length → ∃ h so, ao = some ⟨h, so, none⟩ ∧ ∀ (j : Nat) (s : SP), SC[j]? = some s → w.rangeAt h (so + j * 45) (spC s))
def sZ : SP := ⟨0, 0, false, kZ, eZ, 0, ⟨0, 0⟩, ⟨0, 0⟩, false⟩
theorem zero_SP (W : World) : (zeroValue SPT).run Try.prog W = .ok (.agg (spA sZ)) W := by kernel_rfl
section
variable {ops : Array Oper} {rest : List Oper} {op : Oper} {a : Act} {w : World} {Q : Exit → Act → World → Prop}
theorem wpList_stSP (hgd : op.guard = none) (x y : Operand) (ho : op.op = .store SPT x y) (b : Nat) (hx : a.eval x = .pointer (some ⟨b, 0, none⟩)) (u s : SP) (hy : a.eval y = spV s) (hb : SPB w b u)
    (h : ∀ w', Hid (SPB w' b s) → Hid (w.grownBy w' (some b)) → wpList Try.prog ops Q rest (a.put op.dst undef) w') : wpList Try.prog ops Q (op :: rest) a w := by
  obtain ⟨k1, k2⟩ := setCells_blk hb (spA s) (by rw [spA_size, spA_size])
  refine wpList_skip _ hgd ?_ (h _ (hide k1) (hide k2))
  have hst := run_storeAt_mid (P := Try.prog) w b 0 SPT (spA s) (there_row hb 0 _ (by rw [spA_size, spA_size]; omega)) (by rw [spA_size]; exact iSP) (all_oneCell_toArray (spC_one s))
  simp only [execOp, ho, hx, hy, Sem.run_bind, hst, Result.andThen_ok, Sem.run_pure]
end
theorem iKPT : (Try.prog.info? KPT).map (·.size) = some 2 := by kernel_rfl
theorem run_ldKPT {w : World} {b o : Nat} {x y : Value} (h : w.rangeAt b o [x, y]) : (Instr.loadAt KPT (.pointer (some ⟨b, o, none⟩))).run Try.prog w = .ok (.agg #[x, y]) w :=
  run_loadAt_mid (P := Try.prog) w b o KPT [x, y] _ h Try.underlying47 rfl iKPT
theorem lw_start {w0 w1 w2 w3 w5 w6 W5 W7 : World} {N pb rb x0 x1 q0 q1 : Nat} {L0 L1 : List Tab} (hN : N = w0.heap.size) (hb1 : Below N w0 w1) (hx0 : IxL w2 x0 16 L0 (fun _ => none) 0) (hb2 : Below w1.heap.size w1 w2) (hl0 : ∀ b, IxB x0 L0 b → w1.heap.size ≤ b) (hx1 : IxL w3 x1 16 L1 (fun _ => none) 0) (hb3 : Below w2.heap.size w2 w3) (hl1 : ∀ b, IxB x1 L1 b → w2.heap.size ≤ b)
    (hpb : pb = w3.heap.size) (hW5 : W5 = w3.alloc (.cells #[.pointer (some ⟨x0, 0, none⟩), .pointer (some ⟨x1, 0, none⟩)] PAT)) (hq0 : RxA w5 q0 (fun _ => none) 0) (hb5 : Below W5.heap.size W5 w5) (hk0 : W5.heap.size ≤ q0) (hq1 : RxA w6 q1 (fun _ => none) 0) (hb6 : Below w5.heap.size w5 w6) (hk1 : w5.heap.size ≤ q1)
    (hrb : rb = w6.heap.size) (hW7 : W7 = w6.alloc (.cells #[.pointer (some ⟨q0, 0, none⟩), .pointer (some ⟨q1, 0, none⟩)] RAT)) : LwS w0 W7 N pb rb (fun i => if i = 0 then x0 else x1) (fun i => if i = 0 then q0 else q1) (fun i => if i = 0 then L0 else L1) (fun _ _ => none) 0 (.slice none 0 0) [] := by
  have c35 : Below w3.heap.size w3 W5 := by rw [hW5]; exact below_alloc w3 _
  have c67 : Below w6.heap.size w6 W7 := by rw [hW7]; exact below_alloc w6 _
  have c56 : Below W5.heap.size W5 w6 := hb5.trans (hb6.mono hb5.size)
  have c57 : Below W5.heap.size W5 W7 := c56.trans (c67.mono c56.size)
  have c37 : Below w3.heap.size w3 W7 := c35.trans (c57.mono c35.size)
  have c27 : Below w2.heap.size w2 W7 := hb3.trans (c37.mono hb3.size)
  have c17 : Below w1.heap.size w1 W7 := hb2.trans (c27.mono hb2.size)
  have c57' : Below w5.heap.size w5 W7 := hb6.trans (c67.mono hb6.size)
  have hs1 : N ≤ w1.heap.size := by rw [hN]; exact hb1.size
  have s2 := hb2.size
  have s3 := hb3.size
  have s5 := c35.size
  have s6 := hb5.size
  have s7 := hb6.size
  have hpB0 : Blk W5 pb #[.pointer (some ⟨x0, 0, none⟩), .pointer (some ⟨x1, 0, none⟩)] PAT := by rw [hW5, hpb]; exact Blk.made w3 _ _
  have hrB0 : Blk W7 rb #[.pointer (some ⟨q0, 0, none⟩), .pointer (some ⟨q1, 0, none⟩)] RAT := by rw [hW7, hrb]; exact Blk.made w6 _ _
  obtain ⟨v0, hqb⟩ := hq0.blk
  have lq0 := hqb.lt
  refine ⟨hb1.trans (c17.mono hs1), hpB0.below c57 hpB0.lt, hrB0, fun j hj => ?_, fun j hj => ?_, fun b h0 h1 => ?_, ?_, fun j hj => ?_, by omega, World.ownsRow_nil _ _ _ _, fun z hz => by cases hz⟩
  · have : j = 0 ∨ j = 1 := by omega
    rcases this with rfl | rfl
    · exact hx0.below c27
    · exact hx1.below c37
  · have : j = 0 ∨ j = 1 := by omega
    rcases this with rfl | rfl
    · exact hq0.below c57'
    · exact hq1.below c67
  · have := hx0.lt h0
    have := hl1 b h1
    omega
  · show q0 ≠ q1
    omega
  · have : j = 0 ∨ j = 1 := by omega
    rcases this with rfl | rfl
    · exact ⟨fun b hb => by have := hl0 b hb; omega, by show N ≤ q0; omega⟩
    · exact ⟨fun b hb => by have := hl1 b hb; omega, by show N ≤ q1; omega⟩
/-- A box of the document's that is none of ours has changed. -/
theorem LwS.junk {w0 W W' : World} {N pb rb m q : Nat} {xs qs : Nat → Nat} {Ls : Nat → List Tab} {fs : Nat → KY → Option EN} {kv : Value} {KS : List (Value × Value)} (h : LwS w0 W N pb rb xs qs Ls fs m kv KS) (hg : W.grownBy W' (some q)) {u : Value} (hq : Blk W q #[u] RIT) (h0 : ∀ j, j < 2 → q ≠ qs j) (hN : N ≤ q) : LwS w0 W' N pb rb xs qs Ls fs m kv KS := by
  have keep : ∀ {b : Nat} {cs : Array Value} {t : TypeId}, Blk W b cs t → t ≠ RIT → W'.heap[b]? = W.heap[b]? := fun hb ht => hg.block _ hb.lt (fun e => by
    rw [Option.some.inj e] at hb
    exact blk_ne hb hq ht rfl)
  have hkb : KeepB W W' := fun b cs t hb ht => by
    rcases ht with rfl | rfl
    · exact keep hb (by decide)
    · exact keep hb (by decide)
  have hs := h.sz
  refine ⟨⟨hg.os.trans h.bel.os, hg.tape.trans h.bel.tape, hg.output.trans h.bel.output, Nat.le_trans h.bel.size hg.size, fun b hb => (hg.block b (by omega) (fun e => by have := Option.some.inj e; omega)).trans (h.bel.block b hb)⟩, (keep h.pB (by decide)).trans h.pB, (keep h.rB (by decide)).trans h.rB, fun i hi => ?_, fun i hi => ?_, h.ap, h.aq, h.low, h.lop, h.kr.same (fun b e => by obtain ⟨cs, hb⟩ := h.kr.blk e; exact keep hb (by decide)), fun z hz => (h.ks z hz).keepB hkb⟩
  · refine (h.ix i hi).same (fun b hb => hg.block b ((h.ix i hi).lt hb) (fun e => ?_))
    rw [Option.some.inj e] at hb
    exact (h.ix i hi).notB hq (by decide) (by decide) (by decide) hb
  · obtain ⟨V2, ⟨v, g1, g2⟩, g3⟩ := h.rx i hi
    exact ⟨V2, ⟨v, (hg.block _ g1.lt (fun e => h0 i hi (Option.some.inj e).symm)).trans g1, g2.keepB hkb⟩, g3⟩
/-- What is appended to a row of what was kept leaves all else. -/
theorem push_keep {W W5 : World} {N lb n c : Nat} {ao : Option Addr} {kv : Value} {KS : List (Value × Value)} (hk : OwnP W N kv KS) (hg : (W.alloc (.cells #[itV lb, .slice ao n c] KPT)).grownBy W5 kv.ownBlock) {b : Nat} {cs : Array Value} {t : TypeId} (hb : Blk W b cs t) (ht : t ≠ KPT) : Blk W5 b cs t := by
  have hb1 : Below W.heap.size W (W.alloc (.cells #[itV lb, .slice ao n c] KPT)) := below_alloc W _
  have h1 := hb.below hb1 hb.lt
  refine h1.grown hg (fun e => ?_)
  obtain ⟨cs2, hc⟩ := (hk.below hb1).blk e.symm
  exact blk_ne h1 hc ht rfl
theorem push_rx {W W5 : World} {N lb n c q m : Nat} {ao : Option Addr} {kv : Value} {KS : List (Value × Value)} {f : KY → Option EN} (hk : OwnP W N kv KS) (hg : (W.alloc (.cells #[itV lb, .slice ao n c] KPT)).grownBy W5 kv.ownBlock) (hr : RxA W q f m) : RxA W5 q f m := by
  obtain ⟨V2, ⟨v, g1, g2⟩, g3⟩ := hr
  refine ⟨V2, ⟨v, push_keep hk hg g1 (by decide), g2.same (fun b e => ?_)⟩, g3⟩
  obtain ⟨cs, hc⟩ := g2.blk e
  exact (push_keep hk hg hc (by decide)).trans hc.symm
/-- Keeping: what the drawn region asks. -/
theorem keep_ready {w0 W : World} {N pb rb m q : Nat} {xs qs : Nat → Nat} {Ls : Nat → List Tab} {fs : Nat → KY → Option EN} {kv pv : Value} {KS : List (Value × Value)} {f : KY → Option EN} {mf : Nat} (h : LwS w0 W N pb rb xs qs Ls fs m kv KS) (hp : IxQ W pv f) (hr : RxA W q f mf) (hm : mf ≤ 1099511627776) (hK : KS.length + 1 ≤ 1099511627776) :
    ∃ (ao : Option Addr) (n c : Nat) (V : List KE), W.cell? ⟨q, 0, none⟩ = some (.slice ao n c) ∧ V.length ≤ 1099511627776 ∧ (Calls Try.prog 8 #[pv] W fun e w' => ∃ lb, e = .returned (itV lb) ∧ ItA w' (itV lb) V ∧ Below W.heap.size W w') ∧
      (∀ w2, Below W.heap.size W w2 → w2.cell? ⟨q, 0, none⟩ = some (.slice ao n c) ∧ OwnD w2 0 (.slice ao n c) V) ∧
      (∀ lb w2, Below W.heap.size W w2 → (w2.alloc (.cells #[itV lb, .slice ao n c] KPT)).cell? ⟨q, 0, none⟩ = some (.slice ao n c) ∧ ∃ v5 w5, (Builtin.append_ #[KPLT, KPLT] KPLT #[kv, .slice (some ⟨w2.heap.size, 0, none⟩) 1 1]).run Try.prog (w2.alloc (.cells #[itV lb, .slice ao n c] KPT)) = .ok v5 w5 ∧ (OwnP w5 N v5 (KS ++ [(itV lb, .slice ao n c)]) ∧ (w2.alloc (.cells #[itV lb, .slice ao n c] KPT)).grownBy w5 kv.ownBlock) ∧ w5.cell? ⟨q, 0, none⟩ = some (.slice ao n c)) := by
  obtain ⟨V, hl, hM, hR, hV⟩ := hr
  obtain ⟨ao, n, c, hq, _, ho, _⟩ := hl.open
  have key : ∀ w2, Below W.heap.size W w2 → Blk w2 q #[.slice ao n c] RIT ∧ OwnD w2 0 (.slice ao n c) V := fun w2 hb => ⟨hq.below hb hq.lt, ho.below hb⟩
  refine ⟨ao, n, c, V, by rw [hq.cell]; rfl, by omega, (hp.all hM hR (by omega)).mono (fun e w' ⟨v, h1, h2, h3⟩ => ?_), fun w2 hb => ⟨by rw [(key w2 hb).1.cell]; rfl, (key w2 hb).2⟩, fun lb w2 hb => ?_⟩
  · obtain ⟨lb, u, rfl, h4, h5⟩ := h2
    exact ⟨lb, h1, ⟨lb, u, rfl, h4, h5⟩, h3⟩
  · have hb1 : Below w2.heap.size w2 (w2.alloc (.cells #[itV lb, .slice ao n c] KPT)) := below_alloc w2 _
    have hk := (h.below hb).kr
    obtain ⟨v5, w5, r1, r2, r3⟩ := run_appP (hk.below hb1) (Blk.made w2 #[itV lb, .slice ao n c] KPT) hK (Nat.le_trans (h.below hb).sz hb1.size)
    refine ⟨by rw [((key w2 hb).1.below hb1 (key w2 hb).1.lt).cell]; rfl, v5, w5, r1, ⟨r2, r3⟩, ?_⟩
    rw [(push_keep hk r3 (key w2 hb).1 (by decide)).cell]; rfl
theorem slice2 {w : World} {B : Nat} {v : Value} {V : List (Value × Value)} (h : OwnP w B v V) : ∃ ao n c, v = .slice ao n c := by
  obtain ⟨ao, c, e, _⟩ := h.slice
  exact ⟨ao, _, c, e⟩
theorem made_set (w2 : World) (x y : Value) : Blk ((w2.alloc (.cells #[.nilFunc, .slice none 0 0] KPT)).setCells w2.heap.size 0 [x, y]) w2.heap.size #[x, y] KPT ∧ Below w2.heap.size w2 ((w2.alloc (.cells #[.nilFunc, .slice none 0 0] KPT)).setCells w2.heap.size 0 [x, y]) := by
  obtain ⟨k1, k2⟩ := setCells_blk (Blk.made w2 #[.nilFunc, .slice none 0 0] KPT) #[x, y] rfl
  exact ⟨k1, below_grownBy (grownBy_trans (World.grownBy_alloc w2 _ _) k2) (Nat.le_refl _) (Nat.le_refl _)⟩
theorem made_set2 {W w2 : World} (hb : Below (W.alloc (.cells #[.nilFunc, .slice none 0 0] KPT)).heap.size (W.alloc (.cells #[.nilFunc, .slice none 0 0] KPT)) w2) (x y : Value) : Blk w2 W.heap.size #[.nilFunc, .slice none 0 0] KPT ∧ Blk (w2.setCells W.heap.size 0 [x, y]) W.heap.size #[x, y] KPT ∧ w2.grownBy (w2.setCells W.heap.size 0 [x, y]) (some W.heap.size) ∧ Below W.heap.size W (w2.setCells W.heap.size 0 [x, y]) := by
  have h0 := Blk.made W #[.nilFunc, .slice none 0 0] KPT
  have h1 := h0.below hb h0.lt
  obtain ⟨k1, k2⟩ := setCells_blk h1 #[x, y] rfl
  exact ⟨h1, k1, k2, below_grownBy (grownBy_trans (World.grownBy_alloc W _ _) (grownBy_trans (grownBy_of_below hb _) k2)) (Nat.le_refl _) (Nat.le_refl _)⟩
def Three (W : World) (pb rb j q : Nat) (pv rv : Value) : Prop := W.cell? ⟨pb, j, none⟩ = some pv ∧ W.cell? ⟨rb, j, none⟩ = some (.pointer (some ⟨q, 0, none⟩)) ∧ W.cell? ⟨q, 0, none⟩ = some rv
/-- Asking one of the two for all: what the drawn region asks. -/
theorem ent_ready {w0 W : World} {N pb rb m : Nat} {xs qs : Nat → Nat} {Ls : Nat → List Tab} {fs : Nat → KY → Option EN} {kv : Value} {KS : List (Value × Value)} (h : LwS w0 W N pb rb xs qs Ls fs m kv KS) {j : Nat} (hj : j < 2) (hm : m ≤ 1099511627776) :
    ∃ (ao : Option Addr) (n c : Nat) (V : List KE), V.length ≤ 1099511627776 ∧ n = V.length ∧ Maps V (fs j) ∧ (∀ w2, Below W.heap.size W w2 → Three w2 pb rb j (qs j) (.pointer (some ⟨xs j, 0, none⟩)) (.slice ao n c) ∧ OwnD w2 0 (.slice ao n c) V ∧ Calls Try.prog 8 #[.pointer (some ⟨xs j, 0, none⟩)] w2 fun e w' => ∃ lb, e = .returned (itV lb) ∧ ItA w' (itV lb) V ∧ Below w2.heap.size w2 w') := by
  obtain ⟨V, hl, hM, hR, hV⟩ := h.rx j hj
  obtain ⟨ao, n, c, hq, hn, ho, _⟩ := hl.open
  refine ⟨ao, n, c, V, by omega, hn.out, hM, fun w2 hb => ⟨⟨(h.below hb).cellP hj, (h.below hb).cellR hj, by rw [(hq.below hb hq.lt).cell]; rfl⟩, ho.below hb, (IxQ.all (.inr ⟨_, m, _, rfl, (h.below hb).ix j hj⟩) hM hR (by omega)).mono (fun e w' ⟨v, h1, h2, h3⟩ => ?_)⟩⟩
  obtain ⟨lb, u, rfl, h4, h5⟩ := h2
  exact ⟨lb, h1, ⟨lb, u, rfl, h4, h5⟩, h3⟩
theorem two_at {xs : Nat → Nat} {j : Nat} (hj : j < 2) : (#[.pointer (some ⟨xs 0, 0, none⟩), .pointer (some ⟨xs 1, 0, none⟩)] : Array Value)[j]? = some (.pointer (some ⟨xs j, 0, none⟩)) := by
  have : j = 0 ∨ j = 1 := by omega
  rcases this with rfl | rfl <;> rfl
theorem exact_law (w0 : World) (v : Value) (SC : List SP) (hS : SpR w0 v SC) (hM : SC.length ≤ 1099511627775) : Calls Try.prog 3 #[v] w0 fun e w' => e = .returned (.bool true) ∧ Below w0.heap.size w0 w' := by
  obtain ⟨N, hN⟩ : ∃ N, N = w0.heap.size := ⟨_, rfl⟩
  obtain ⟨ao, c, rfl, hr⟩ := hS
  obtain ⟨n, hn⟩ : ∃ n, n = SC.length := ⟨_, rfl⟩
  have HSC : Hid (∀ W, Below N w0 W → ∀ (i : Nat) (s : SP), SC[i]? = some s → ∃ h so, ao = some ⟨h, so, none⟩ ∧ W.rangeAt h (so + i * 45) (spC s)) := hide (fun W hb i s hi => by
    obtain ⟨h, so, e, h3⟩ := hr (by have := (List.getElem?_eq_some_iff.1 hi).1; omega)
    rw [hN] at hb
    exact ⟨h, so, e, range_bel (h3 i s hi) hb⟩)
  have HN := hide hN
  have HNn := hide hn
  rw [← hn] at hM ⊢
  clear hr hn
  have HW := hide (works_any w0)
  go_enter Try.func3, Try.ntmps3
  go_upto_region 3 with (go_at_call 5; (with_reducible refine HW.out.mono ?_); rintro e w1 ⟨rfl, hb⟩; have HB1 := hide hb; clear hb)
  have HX1 := hide (ixnew_any w1)
  clear HW
  go_upto_region 4 with (go_at_call 6; first | ((with_reducible refine HX1.out.mono ?_); rintro e w2 ⟨x0, L0, rfl, hx, hb, hl⟩; have HI0 := hide hx; have HB2 := hide hb; have HL0 := hide hl; have HX2 := hide (ixnew_any w2); clear hx hb hl HX1) | ((with_reducible refine HX2.out.mono ?_); rintro e w3 ⟨x1, L1, rfl, hx, hb, hl⟩; have HI1 := hide hx; have HB3 := hide hb; have HL1 := hide hl; clear hx hb hl HX2))
  obtain ⟨W5, hW5⟩ : ∃ W5, W5 = w3.alloc (.cells #[.pointer (some ⟨x0, 0, none⟩), .pointer (some ⟨x1, 0, none⟩)] PAT) := ⟨_, rfl⟩
  rw [← hW5]
  obtain ⟨pb, hpb⟩ : ∃ pb, pb = w3.heap.size := ⟨_, rfl⟩
  rw [← hpb]
  have HW5 := hide hW5
  have HPB := hide hpb
  have HR1 := hide (rnew_any W5)
  clear hW5 hpb
  go_upto_region 5 with (go_at_call 7; first | ((with_reducible refine HR1.out.mono ?_); rintro e w5 ⟨q0, rfl, hl, hq, hb⟩; have HQ0 := hide hq; have HB5 := hide hb; have HK0 := hide hl; have HR2 := hide (rnew_any w5); clear hq hb hl HR1) | ((with_reducible refine HR2.out.mono ?_); rintro e w6 ⟨q1, rfl, hl, hq, hb⟩; have HQ1 := hide hq; have HB6 := hide hb; have HK1 := hide hl; clear hq hb hl HR2))
  obtain ⟨rb, hrb⟩ : ∃ rb, rb = w6.heap.size := ⟨_, rfl⟩
  rw [← hrb]
  obtain ⟨W7, hW7⟩ : ∃ W7, W7 = w6.alloc (.cells #[.pointer (some ⟨q0, 0, none⟩), .pointer (some ⟨q1, 0, none⟩)] RAT) := ⟨_, rfl⟩
  rw [← hW7]
  have HS0 := hide (lw_start hN (by rw [hN]; exact HB1.out) HI0.out HB2.out HL0.out HI1.out HB3.out HL1.out HPB.out HW5.out HQ0.out HB5.out HK0.out HQ1.out HB6.out HK1.out hrb hW7)
  clear HB1 HI0 HB2 HL0 HI1 HB3 HL1 HPB HW5 HQ0 HB5 HK0 HQ1 HB6 HK1 hrb hW7 hN
  go_upto_region 7 with fail
  go_loopw [5, 6] (fun t5 t6 wr => ∃ (i : Nat) (kv : Value) (KS : List (Value × Value)) (xs qs : Nat → Nat) (Ls : Nat → List Tab) (fs : Nat → KY → Option EN), kv = t5 ∧ t6 = .int .i64 i ∧ i ≤ n ∧ LwS w0 wr N pb rb xs qs Ls fs i kv KS ∧ KS.length ≤ i) (fun _ t6 _ => n - (intOf t6).toNat)
  case atStart => exact ⟨0, _, [], _, _, _, _, rfl, rfl, by omega, HS0.out, Nat.le_refl _⟩
  case round =>
    obtain ⟨i, kv, KS, xs, qs, Ls, fs, rfl, rfl, hi, hS, hKl⟩ := hrel
    have HS := hide hS
    have HKL := hide hKl
    clear hS hKl HS0
    by_cases hlt : i < n
    · have hji : (i : Int) < (n : Int) := by omega
      obtain ⟨s, hs⟩ : ∃ s, SC[i]? = some s := ⟨_, List.getElem?_eq_getElem (by rw [← HNn.out]; exact hlt)⟩
      obtain ⟨h, so, rfl, hrg⟩ := HSC.out wr HS.out.bel i s hs
      have HRG := hide hrg
      have hzs := zero_SP
      have HZ : Hid (SPB (wr.alloc (.cells (spA sZ) SPT)) wr.heap.size sZ) := hide (Blk.made wr _ _)
      clear hs hrg
      go_upto_region 10 with (first | ((with_reducible refine wpList_valW (spV s) ?_ (run_loadO (x := .tmp 30) (p := .pointer (some ⟨h, so + i * 45, none⟩)) rfl ?_ (run_ldSP HRG.out)) ?_); rfl; rfl) | ((with_reducible refine wpList_stSP ?_ (.tmp 7) (.tmp 31) ?_ wr.heap.size ?_ sZ s ?_ HZ.out ?_); rfl; rfl; rfl; rfl; intro W hw hg))
      have hbW : Below wr.heap.size wr W := below_grownBy (grownBy_trans (World.grownBy_alloc wr _ _) hg.out) (Nat.le_refl _) (Nat.le_refl _)
      have HSW := hide (HS.out.below hbW)
      obtain ⟨sb, hsb⟩ : ∃ sb, sb = wr.heap.size := ⟨_, rfl⟩
      rw [← hsb] at hw ⊢
      have HSB := hide hw.out
      clear hbW hw hg hsb HS HRG HZ hzs
      obtain ⟨on, hon⟩ : ∃ on, on = s.on := ⟨_, rfl⟩
      have cO : W.cell? ⟨sb, 1, none⟩ = some (.int .i64 on) := by rw [hon]; exact SPB.on HSB.out
      obtain ⟨j, hj, hand⟩ : ∃ j : Nat, j < 2 ∧ bits .and .i64 on 1 = (j : Int) := by
        rcases and_one on with e | e
        · exact ⟨0, by decide, e⟩
        · exact ⟨1, by decide, e⟩
      clear hon
      go_upto_region 11 with fail
      clear cO hand
      have cP := fun d os => cell_regrown (HSW.out.cellP hj) d os
      have cR := fun d os => cell_regrown (HSW.out.cellR hj) d os
      have HJ := hide hj
      refine wp_region_quiet_below (by kernel_rfl) (by kernel_rfl) ?_
      quiet_step (fail)
      refine wpQuiet_val (.pointer (some ⟨pb, j, none⟩)) rfl (fun w0 _ => run_ixP rfl rfl rfl HJ.out w0) ?_
      quiet_step (fail)
      quiet_step (fail)
      refine wpQuiet_val (.pointer (some ⟨rb, j, none⟩)) rfl (fun w0 _ => run_ixR rfl rfl rfl HJ.out w0) ?_
      iterate 3 quiet_step (fail)
      refine wpQuiet_nil ?_
      intro W1 hw1
      have hb1 : RowKit.Below W.heap.size W W1 := below_of hw1
      have HS1 := hide (HSW.out.below hb1)
      have HSB1 : Hid (SPB W1 sb s) := hide (Blk.below HSB.out hb1 (Blk.lt HSB.out))
      clear hw1 hb1 cP cR HSW HSB
      obtain ⟨no, hno⟩ : ∃ no, no = s.no := ⟨_, rfl⟩
      have cN : W1.cell? ⟨sb, 2, none⟩ = some (.bool no) := by rw [hno]; exact SPB.no HSB1.out
      obtain ⟨kd, hkd⟩ : ∃ kd, kd = s.kd := ⟨_, rfl⟩
      have cD : W1.cell? ⟨sb, 0, none⟩ = some (.int .i64 kd) := by rw [hkd]; exact SPB.kd HSB1.out
      have lS := Blk.lt HSB1.out
      have HNO := hide hno
      have HKD := hide hkd
      clear hno hkd
      cases no with
      | true =>
        have HNV : Hid (s.no = true) := hide HNO.out.symm
        have HRn := hide (rnew_any W1)
        go_upto_region 14 with (go_at_call 7; (with_reducible refine HRn.out.mono ?_); rintro e W2 ⟨q, rfl, hl, hq, hb⟩; have HQ2 := hide hq; have HB2 := hide hb; have HK2 := hide hl; clear hq hb hl)
        have HQN : Hid ((∀ k, k < 2 → q ≠ qs k) ∧ N ≤ q) := hide (by
          have h1 := HK2.out
          refine ⟨fun k hk e => ?_, by have := HS1.out.sz; omega⟩
          obtain ⟨u, hb⟩ := (HS1.out.rx k hk).blk
          have := hb.lt
          omega)
        have HS2 := hide (HS1.out.below HB2.out)
        have HSB2 : Hid (SPB W2 sb s) := hide (Blk.below HSB1.out HB2.out (Blk.lt HSB1.out))
        clear cN cD lS HRn HS1 HSB1
        have cN : W2.cell? ⟨sb, 2, none⟩ = some (.bool true) := by rw [← HNV.out]; exact SPB.no HSB2.out
        have cD : W2.cell? ⟨sb, 0, none⟩ = some (.int .i64 kd) := by rw [HKD.out]; exact SPB.kd HSB2.out
        have lS := Blk.lt HSB2.out
        clear HB2 HK2
        by_cases h1 : kd = 1
        · subst h1
          go_upto_region 19 with fail
          clear cN cD lS
          have HRc : Hid (W2.rangeAt sb 0 (spC s)) := hide (Blk.range HSB2.out)
          have HAsk := hide (asks_any W2 s (.inl ⟨rfl, rfl⟩) HQ2.out (by omega))
          have HChg := hide (fun Wz (hb : Below W2.heap.size W2 Wz) => changes_nil Wz s (HQ2.out.below hb) (by omega) HNV.out)
          go_upto_region 8 with (first | ((with_reducible refine wpList_valW (spV s) ?_ (run_loadO (x := .tmp 7) (p := .pointer (some ⟨sb, 0, none⟩)) rfl ?_ (run_ldSP HRc.out)) ?_); rfl; rfl) | ((with_reducible refine wpList_valW (spV s) ?_ (run_loadO (x := .tmp 7) (p := .pointer (some ⟨sb, 0, none⟩)) rfl ?_ (run_ldSP HRa.out)) ?_); rfl; rfl) | (go_at_call 9; (with_reducible refine HAsk.out.mono ?_); rintro e wa ⟨rfl, hb⟩; have HBa := hide hb; have HRa := hide (range_bel HRc.out hb); clear hb) | (go_at_call 10; (with_reducible refine (HChg.out wa HBa.out).mono ?_); rintro e wb ⟨rfl, hg⟩; have HC := hide hg; clear hg))
          obtain ⟨uq, hqb⟩ := (HQ2.out.below HBa.out).blk
          have HF := hide (((HS2.out.below HBa.out).junk HC.out hqb HQN.out.1 HQN.out.2).more (Nat.le_succ i))
          clear hqb HAsk HChg
          go_wp2
          go_roundw
          case rel => exact ⟨i + 1, _, _, _, _, _, _, rfl, by go_num, by omega, HF.out, by have := HKL.out; omega⟩
          case measure => simp [intOf]; omega
        · have b1 : (kd == 1) = false := by simpa using h1
          by_cases h11 : kd = 11
          · subst h11
            go_upto_region 18 with fail
            have hbd : Below W2.heap.size W2 W2.drew := (Below.refl _ _).drew
            have HSd := hide (HS2.out.below hbd)
            have HSBd : Hid (SPB W2.drew sb s) := hide (Blk.below HSB2.out hbd (Blk.lt HSB2.out))
            have HQd := hide (HQ2.out.below hbd)
            obtain ⟨ao2, n2, c2, V, hq0, hVl, hAll, hKeep, hApp⟩ := keep_ready (pv := .pointer none) (q := q) HSd.out (.inl ⟨rfl, rfl⟩) HQd.out (by omega) (by have := HKL.out; omega)
            have HQ0 := hide hq0
            have HVl := hide hVl
            have HAll := hide hAll
            have HKp := hide hKeep
            have HAp := hide hApp
            clear hq0 hVl hAll hKeep hApp hbd
            refine wp_norm (lk_walk _ (fun _ _ _ _ _ h => h) W2 (q) n2 c2 ao2 (.pointer none) kv (fun lb w2 => ItA w2 (itV lb) V ∧ Below W2.drew.heap.size W2.drew w2) (fun lb w2 v5 w5 => OwnP w5 N v5 (KS ++ [(itV lb, .slice ao2 n2 c2)]) ∧ (w2.alloc (.cells #[itV lb, .slice ao2 n2 c2] KPT)).grownBy w5 kv.ownBlock) HQ0.out HAll.out (fun lb w2 h => ⟨(HKp.out w2 h.2).1, (HAp.out lb w2 h.2).1⟩) (fun lb w2 h => (HAp.out lb w2 h.2).2) _ ?_ ?_ ?_ ?_ ?_)
            any_goals rfl
            · exact Nat.lt_of_sub_pos (by exact Nat.succ_pos _)
            rintro lb w2 ⟨hit, hb2⟩ kv2 w5 ⟨ho5, hg5⟩
            have HS5 := hide ((HSd.out.below hb2).push hit (HKp.out w2 hb2).2 HVl.out ho5 hg5)
            have HSB5 : Hid (SPB w5 sb s) := hide (push_keep (HSd.out.below hb2).kr hg5 (Blk.below HSBd.out hb2 (Blk.lt HSBd.out)) (by decide))
            have HQ5 := hide (push_rx (HSd.out.below hb2).kr hg5 (HQd.out.below hb2))
            obtain ⟨kao, kn, kc, rfl⟩ := slice2 ho5
            clear hit hb2 ho5 hg5 HQ0 HVl HAll HKp HAp HSd HSBd HQd cN cD lS
            simp only [Act.put, List.setIfInBounds_toArray, List.set_cons_zero, List.set_cons_succ, Exit.then]
            have HRc : Hid (w5.rangeAt sb 0 (spC s)) := hide (Blk.range HSB5.out)
            have HAsk := hide (asks_any w5 s (.inl ⟨rfl, rfl⟩) HQ5.out (by omega))
            have HChg := hide (fun Wz (hb : Below w5.heap.size w5 Wz) => changes_nil Wz s (HQ5.out.below hb) (by omega) HNV.out)
            go_upto_region 8 with (first | ((with_reducible refine wpList_valW (spV s) ?_ (run_loadO (x := .tmp 7) (p := .pointer (some ⟨sb, 0, none⟩)) rfl ?_ (run_ldSP HRc.out)) ?_); rfl; rfl) | ((with_reducible refine wpList_valW (spV s) ?_ (run_loadO (x := .tmp 7) (p := .pointer (some ⟨sb, 0, none⟩)) rfl ?_ (run_ldSP HRa.out)) ?_); rfl; rfl) | (go_at_call 9; (with_reducible refine HAsk.out.mono ?_); rintro e wa ⟨rfl, hb⟩; have HBa := hide hb; have HRa := hide (range_bel HRc.out hb); clear hb) | (go_at_call 10; (with_reducible refine (HChg.out wa HBa.out).mono ?_); rintro e wb ⟨rfl, hg⟩; have HC := hide hg; clear hg))
            obtain ⟨uq, hqb⟩ := (HQ5.out.below HBa.out).blk
            have HF := hide (((HS5.out.below HBa.out).junk HC.out hqb HQN.out.1 HQN.out.2).more (Nat.le_succ i))
            clear hqb HAsk HChg
            go_wp2
            go_roundw
            case rel => exact ⟨i + 1, _, KS ++ [(itV lb, .slice ao2 n2 c2)], _, _, _, _, rfl, by go_num, by omega, HF.out, by have h9 := HKL.out; rw [List.length_append, List.length_singleton]; omega⟩
            case measure => simp [intOf]; omega
          · have b11 : (kd == 11) = false := by simpa using h11
            go_upto_region 19 with fail
            clear cN cD lS
            have HRc : Hid (W2.rangeAt sb 0 (spC s)) := hide (Blk.range HSB2.out)
            have HAsk := hide (asks_any W2 s (.inl ⟨rfl, rfl⟩) HQ2.out (by omega))
            have HChg := hide (fun Wz (hb : Below W2.heap.size W2 Wz) => changes_nil Wz s (HQ2.out.below hb) (by omega) HNV.out)
            go_upto_region 8 with (first | ((with_reducible refine wpList_valW (spV s) ?_ (run_loadO (x := .tmp 7) (p := .pointer (some ⟨sb, 0, none⟩)) rfl ?_ (run_ldSP HRc.out)) ?_); rfl; rfl) | ((with_reducible refine wpList_valW (spV s) ?_ (run_loadO (x := .tmp 7) (p := .pointer (some ⟨sb, 0, none⟩)) rfl ?_ (run_ldSP HRa.out)) ?_); rfl; rfl) | (go_at_call 9; (with_reducible refine HAsk.out.mono ?_); rintro e wa ⟨rfl, hb⟩; have HBa := hide hb; have HRa := hide (range_bel HRc.out hb); clear hb) | (go_at_call 10; (with_reducible refine (HChg.out wa HBa.out).mono ?_); rintro e wb ⟨rfl, hg⟩; have HC := hide hg; clear hg))
            obtain ⟨uq, hqb⟩ := (HQ2.out.below HBa.out).blk
            have HF := hide (((HS2.out.below HBa.out).junk HC.out hqb HQN.out.1 HQN.out.2).more (Nat.le_succ i))
            clear hqb HAsk HChg
            go_wp2
            go_roundw
            case rel => exact ⟨i + 1, _, _, _, _, _, _, rfl, by go_num, by omega, HF.out, by have := HKL.out; omega⟩
            case measure => simp [intOf]; omega
      | false =>
        have HNV : Hid (s.no = false) := hide HNO.out.symm
        by_cases h1 : kd = 1
        · subst h1
          go_upto_region 15 with fail
          clear cN cD lS
          have hbd : Below W1.heap.size W1 W1.drew := (Below.refl _ _).drew
          have HSd := hide (HS1.out.below hbd)
          have HSBd : Hid (SPB W1.drew sb s) := hide (Blk.below HSB1.out hbd (Blk.lt HSB1.out))
          have hne : pb ≠ rb := fun e => by have h5 := HSd.out.rB; rw [← e] at h5; exact blk_ne HSd.out.pB h5 (by decide) rfl
          have HNE := hide hne
          clear hbd hne
          refine wp_norm (lw_walk _ (fun _ _ _ _ _ h => h) W1 pb rb j HJ.out #[.pointer (some ⟨xs 0, 0, none⟩), .pointer (some ⟨xs 1, 0, none⟩)] #[.pointer (some ⟨qs 0, 0, none⟩), .pointer (some ⟨qs 1, 0, none⟩)] _ _ (two_at HJ.out) (two_at HJ.out) HNE.out (fun x w2 => ∃ L, IxL w2 x 16 L (fun _ => none) 0 ∧ Below W1.drew.heap.size W1.drew w2 ∧ ∀ b, IxB x L b → W1.drew.heap.size ≤ b) (fun w2 q w3 => w2.heap.size ≤ q ∧ RxA w3 q (fun _ => none) 0 ∧ Below w2.heap.size w2 w3) ((ixnew_any W1.drew).mono (fun e w' ⟨x, L, h1, h2, h3, h4⟩ => ⟨x, h1, L, h2, h3, h4⟩)) (fun x w2 h => (rnew_any w2).mono (fun e w' ⟨q, h1, h2, h3, h4⟩ => ⟨q, h1, h2, h3, h4⟩)) (fun x w2 q w3 ⟨L, h1, h2, h3⟩ ⟨h4, h5, h6⟩ => by
            have hb : Below W1.drew.heap.size W1.drew w3 := h2.trans (h6.mono h2.size)
            exact ⟨(HSd.out.below hb).pB, (HSd.out.below hb).rB⟩) _ ?_ ?_ ?_ ?_ ?_)
          any_goals rfl
          · exact Nat.lt_of_sub_pos (by exact Nat.succ_pos _)
          rintro x w2 ⟨L, hx2, hb2, hxl⟩ q w3 ⟨hql, hq3, hb3⟩
          have hbb : Below W1.drew.heap.size W1.drew w3 := hb2.trans (hb3.mono hb2.size)
          have HS3 := hide (HSd.out.renew HJ.out hbb (hx2.below hb3) hxl hq3 (by have := hb2.size; omega))
          have hsb3 : SPB w3 sb s := Blk.below HSBd.out hbb (Blk.lt HSBd.out)
          have HSB3 : Hid (SPB ((w3.setCell ⟨pb, j, none⟩ (.pointer (some ⟨x, 0, none⟩))).setCell ⟨rb, j, none⟩ (.pointer (some ⟨q, 0, none⟩))) sb s) := hide (by
            have hpB := (HSd.out.below hbb).pB
            have hrB := (HSd.out.below hbb).rB
            have a1 : SPB (w3.setCell ⟨pb, j, none⟩ (.pointer (some ⟨x, 0, none⟩))) sb s := Blk.grown hsb3 (grownBy_set w3 pb j _) (fun e => by rw [← Option.some.inj e] at hpB; exact blk_ne hsb3 hpB (by decide) rfl)
            exact Blk.grown a1 (grownBy_set _ rb j _) (fun e => by rw [← Option.some.inj e] at hrB; exact blk_ne hsb3 hrB (by decide) rfl))
          obtain ⟨W4, hW4⟩ : ∃ W4, W4 = (w3.setCell ⟨pb, j, none⟩ (.pointer (some ⟨x, 0, none⟩))).setCell ⟨rb, j, none⟩ (.pointer (some ⟨q, 0, none⟩)) := ⟨_, rfl⟩
          rw [← hW4] at HS3 HSB3 ⊢
          clear hW4 hsb3 hbb hx2 hb2 hxl hql hq3 hb3 HSd HSBd HNE HS1 HSB1
          simp only [Act.put, List.setIfInBounds_toArray, List.set_cons_zero, List.set_cons_succ, Exit.then]
          obtain ⟨xs2, hxs2⟩ : ∃ g, g = up xs j x := ⟨_, rfl⟩
          obtain ⟨qs2, hqs2⟩ : ∃ g, g = up qs j q := ⟨_, rfl⟩
          rw [← hxs2, ← hqs2] at HS3
          clear hxs2 hqs2
          have cP := fun d os => cell_regrown (HS3.out.cellP HJ.out) d os
          have cR := fun d os => cell_regrown (HS3.out.cellR HJ.out) d os
          go_upto_region 16 with fail
          refine wp_region_quiet_below (by kernel_rfl) (by kernel_rfl) ?_
          quiet_step (fail)
          refine wpQuiet_val (.pointer (some ⟨pb, j, none⟩)) rfl (fun w0 _ => run_ixP rfl rfl rfl HJ.out w0) ?_
          quiet_step (fail)
          quiet_step (fail)
          refine wpQuiet_val (.pointer (some ⟨rb, j, none⟩)) rfl (fun w0 _ => run_ixR rfl rfl rfl HJ.out w0) ?_
          iterate 3 quiet_step (fail)
          refine wpQuiet_nil ?_
          intro W5 hw5
          have hb5 : RowKit.Below W4.heap.size W4 W5 := below_of hw5
          have HS5 := hide (HS3.out.below hb5)
          have HSB5 : Hid (SPB W5 sb s) := hide (Blk.below HSB3.out hb5 (Blk.lt HSB3.out))
          clear hw5 hb5 cP cR HS3 HSB3
          have cD : W5.cell? ⟨sb, 0, none⟩ = some (.int .i64 1) := by rw [HKD.out]; exact SPB.kd HSB5.out
          have lS := Blk.lt HSB5.out
          go_upto_region 19 with fail
          clear cD lS
          have HRc : Hid (W5.rangeAt sb 0 (spC s)) := hide (Blk.range HSB5.out)
          have HAsk := hide (asks_any W5 s (.inr ⟨_, i, _, rfl, HS5.out.ix j HJ.out⟩) (HS5.out.rx j HJ.out) (by omega))
          have HChg := hide (fun Wz (hb : Below W5.heap.size W5 Wz) => changes_ix Wz s ((HS5.out.ix j HJ.out).below hb) (by omega) ((HS5.out.rx j HJ.out).below hb) (by omega) HNV.out)
          go_upto_region 8 with (first | ((with_reducible refine wpList_valW (spV s) ?_ (run_loadO (x := .tmp 7) (p := .pointer (some ⟨sb, 0, none⟩)) rfl ?_ (run_ldSP HRc.out)) ?_); rfl; rfl) | ((with_reducible refine wpList_valW (spV s) ?_ (run_loadO (x := .tmp 7) (p := .pointer (some ⟨sb, 0, none⟩)) rfl ?_ (run_ldSP HRa.out)) ?_); rfl; rfl) | (go_at_call 9; (with_reducible refine HAsk.out.mono ?_); rintro e wa ⟨rfl, hb⟩; have HBa := hide hb; have HRa := hide (range_bel HRc.out hb); clear hb) | (go_at_call 10; (with_reducible refine (HChg.out wa HBa.out).mono ?_); rintro e wb ⟨rfl, f', hc⟩; have HC := hide hc; clear hc))
          obtain ⟨Ls', fs', hf⟩ := (HS5.out.below HBa.out).change HJ.out HC.out
          have HF := hide hf
          clear hf HAsk HChg
          go_wp2
          go_roundw
          case rel => exact ⟨i + 1, _, _, _, _, _, _, rfl, by go_num, by omega, HF.out, by have := HKL.out; omega⟩
          case measure => simp [intOf]; omega
        · have b1 : (kd == 1) = false := by simpa using h1
          by_cases h11 : kd = 11
          · subst h11
            go_upto_region 18 with fail
            have hbd : Below W1.heap.size W1 W1.drew := (Below.refl _ _).drew
            have HSd := hide (HS1.out.below hbd)
            have HSBd : Hid (SPB W1.drew sb s) := hide (Blk.below HSB1.out hbd (Blk.lt HSB1.out))
            obtain ⟨ao2, n2, c2, V, hq0, hVl, hAll, hKeep, hApp⟩ := keep_ready (pv := .pointer (some ⟨xs j, 0, none⟩)) (q := qs j) HSd.out (.inr ⟨_, i, _, rfl, HSd.out.ix j HJ.out⟩) (HSd.out.rx j HJ.out) (by omega) (by have := HKL.out; omega)
            have HQ0 := hide hq0
            have HVl := hide hVl
            have HAll := hide hAll
            have HKp := hide hKeep
            have HAp := hide hApp
            clear hq0 hVl hAll hKeep hApp hbd
            refine wp_norm (lk_walk _ (fun _ _ _ _ _ h => h) W1 (qs j) n2 c2 ao2 (.pointer (some ⟨xs j, 0, none⟩)) kv (fun lb w2 => ItA w2 (itV lb) V ∧ Below W1.drew.heap.size W1.drew w2) (fun lb w2 v5 w5 => OwnP w5 N v5 (KS ++ [(itV lb, .slice ao2 n2 c2)]) ∧ (w2.alloc (.cells #[itV lb, .slice ao2 n2 c2] KPT)).grownBy w5 kv.ownBlock) HQ0.out HAll.out (fun lb w2 h => ⟨(HKp.out w2 h.2).1, (HAp.out lb w2 h.2).1⟩) (fun lb w2 h => (HAp.out lb w2 h.2).2) _ ?_ ?_ ?_ ?_ ?_)
            any_goals rfl
            · exact Nat.lt_of_sub_pos (by exact Nat.succ_pos _)
            rintro lb w2 ⟨hit, hb2⟩ kv2 w5 ⟨ho5, hg5⟩
            have HS5 := hide ((HSd.out.below hb2).push hit (HKp.out w2 hb2).2 HVl.out ho5 hg5)
            have HSB5 : Hid (SPB w5 sb s) := hide (push_keep (HSd.out.below hb2).kr hg5 (Blk.below HSBd.out hb2 (Blk.lt HSBd.out)) (by decide))
            obtain ⟨kao, kn, kc, rfl⟩ := slice2 ho5
            clear hit hb2 ho5 hg5 HQ0 HVl HAll HKp HAp HSd HSBd cN cD lS
            simp only [Act.put, List.setIfInBounds_toArray, List.set_cons_zero, List.set_cons_succ, Exit.then]
            have HRc : Hid (w5.rangeAt sb 0 (spC s)) := hide (Blk.range HSB5.out)
            have HAsk := hide (asks_any w5 s (.inr ⟨_, i, _, rfl, HS5.out.ix j HJ.out⟩) (HS5.out.rx j HJ.out) (by omega))
            have HChg := hide (fun Wz (hb : Below w5.heap.size w5 Wz) => changes_ix Wz s ((HS5.out.ix j HJ.out).below hb) (by omega) ((HS5.out.rx j HJ.out).below hb) (by omega) HNV.out)
            go_upto_region 8 with (first | ((with_reducible refine wpList_valW (spV s) ?_ (run_loadO (x := .tmp 7) (p := .pointer (some ⟨sb, 0, none⟩)) rfl ?_ (run_ldSP HRc.out)) ?_); rfl; rfl) | ((with_reducible refine wpList_valW (spV s) ?_ (run_loadO (x := .tmp 7) (p := .pointer (some ⟨sb, 0, none⟩)) rfl ?_ (run_ldSP HRa.out)) ?_); rfl; rfl) | (go_at_call 9; (with_reducible refine HAsk.out.mono ?_); rintro e wa ⟨rfl, hb⟩; have HBa := hide hb; have HRa := hide (range_bel HRc.out hb); clear hb) | (go_at_call 10; (with_reducible refine (HChg.out wa HBa.out).mono ?_); rintro e wb ⟨rfl, f', hc⟩; have HC := hide hc; clear hc))
            obtain ⟨Ls', fs', hf⟩ := (HS5.out.below HBa.out).change HJ.out HC.out
            have HF := hide hf
            clear hf HAsk HChg
            go_wp2
            go_roundw
            case rel => exact ⟨i + 1, _, KS ++ [(itV lb, .slice ao2 n2 c2)], _, _, _, _, rfl, by go_num, by omega, HF.out, by have h9 := HKL.out; rw [List.length_append, List.length_singleton]; omega⟩
            case measure => simp [intOf]; omega
          · have b11 : (kd == 11) = false := by simpa using h11
            go_upto_region 19 with fail
            clear cN cD lS
            have HRc : Hid (W1.rangeAt sb 0 (spC s)) := hide (Blk.range HSB1.out)
            have HAsk := hide (asks_any W1 s (.inr ⟨_, i, _, rfl, HS1.out.ix j HJ.out⟩) (HS1.out.rx j HJ.out) (by omega))
            have HChg := hide (fun Wz (hb : Below W1.heap.size W1 Wz) => changes_ix Wz s ((HS1.out.ix j HJ.out).below hb) (by omega) ((HS1.out.rx j HJ.out).below hb) (by omega) HNV.out)
            go_upto_region 8 with (first | ((with_reducible refine wpList_valW (spV s) ?_ (run_loadO (x := .tmp 7) (p := .pointer (some ⟨sb, 0, none⟩)) rfl ?_ (run_ldSP HRc.out)) ?_); rfl; rfl) | ((with_reducible refine wpList_valW (spV s) ?_ (run_loadO (x := .tmp 7) (p := .pointer (some ⟨sb, 0, none⟩)) rfl ?_ (run_ldSP HRa.out)) ?_); rfl; rfl) | (go_at_call 9; (with_reducible refine HAsk.out.mono ?_); rintro e wa ⟨rfl, hb⟩; have HBa := hide hb; have HRa := hide (range_bel HRc.out hb); clear hb) | (go_at_call 10; (with_reducible refine (HChg.out wa HBa.out).mono ?_); rintro e wb ⟨rfl, f', hc⟩; have HC := hide hc; clear hc))
            obtain ⟨Ls', fs', hf⟩ := (HS1.out.below HBa.out).change HJ.out HC.out
            have HF := hide hf
            clear hf HAsk HChg
            go_wp2
            go_roundw
            case rel => exact ⟨i + 1, _, _, _, _, _, _, rfl, by go_num, by omega, HF.out, by have := HKL.out; omega⟩
            case measure => simp [intOf]; omega
    · have hji : ¬ (i : Int) < (n : Int) := by omega
      obtain ⟨nk, hnk⟩ : ∃ nk, nk = KS.length := ⟨_, rfl⟩
      obtain ⟨kao, kc, rfl, hkg⟩ := HS.out.kr.slice
      rw [← hnk] at hkg HS ⊢
      have HNK := hide hnk
      have HKG := hide hkg
      have hin : i = n := by omega
      have HIN := hide hin
      clear hnk hkg hin HSC
      go_upto_region 22 with fail
      go_loopw [11] (fun t11 wk => ∃ (r : Nat), t11 = .int .i64 r ∧ r ≤ nk ∧ LwS w0 wk N pb rb xs qs Ls fs i (.slice kao nk kc) KS) (fun t11 _ => nk - (intOf t11).toNat)
      case atStart => exact ⟨0, rfl, by omega, HS.out⟩
      case round =>
        obtain ⟨r, rfl, hr, hSk⟩ := hrel
        have HSk := hide hSk
        clear hSk
        have hkl : nk ≤ 1099511627775 := by have := HKL.out; have := HNK.out; have := HIN.out; omega
        by_cases hlr : r < nk
        · have hjr : (r : Int) < (nk : Int) := by omega
          obtain ⟨z, hz⟩ : ∃ z, KS[r]? = some z := ⟨_, List.getElem?_eq_getElem (by rw [← HNK.out]; exact hlr)⟩
          obtain ⟨g, rfl⟩ := HKG.out (by omega)
          have hrg := HSk.out.kr.read rfl hz
          obtain ⟨lb, ao2, n2, c2, V, rfl, hit, hov, hVl⟩ := HSk.out.ks z (List.mem_of_getElem? hz)
          have HRG : Hid (wr.rangeAt g (r * 2) [itV lb, .slice ao2 n2 c2]) := hide hrg
          have HT := hide (tells_any wr hit hov hVl)
          clear hz hrg hit hov hVl
          go_upto_region 23 with (first | ((with_reducible refine wpList_valW (.agg #[itV lb, .slice ao2 n2 c2]) ?_ (run_loadO (x := .tmp 97) (p := .pointer (some ⟨g, r * 2, none⟩)) rfl ?_ (run_ldKPT HRG.out)) ?_); rfl; rfl) | (go_at_call 11; (with_reducible refine HT.out.mono ?_); rintro e wt ⟨rfl, hb⟩; have HSt := hide (HSk.out.below hb); clear hb))
          go_wp2
          go_roundw
          case rel => exact ⟨r + 1, rfl, by omega, HSt.out⟩
          case measure => simp [intOf]; omega
        · have hjr : ¬ (r : Int) < (nk : Int) := by omega
          clear HS
          go_upto_region 27 with fail
          go_loopw [12] (fun t12 wl => ∃ (r : Nat), t12 = .int .i64 r ∧ r ≤ 2 ∧ LwS w0 wl N pb rb xs qs Ls fs i (.slice kao nk kc) KS) (fun t12 _ => 2 - (intOf t12).toNat)
          case atStart => exact ⟨0, rfl, by omega, HSk.out⟩
          case round =>
          obtain ⟨r, rfl, hr, hSl⟩ := hrel
          have HSl := hide hSl
          clear hSl HSk
          by_cases hlr : r < 2
          · have hj2 : (r : Int) < 2 := by omega
            have HR2 := hide hlr
            go_upto_region 29 with fail
            have hbd : Below wr.heap.size wr wr.drew := (Below.refl _ _).drew
            have HSd := hide (HSl.out.below hbd)
            obtain ⟨ao2, n2, c2, V, hVl, hnV, hM, hEnt⟩ := ent_ready HSd.out hlr (by omega)
            have HVl := hide hVl
            have HNV := hide hnV
            have HMp := hide hM
            have HEnt := hide hEnt
            clear hVl hnV hM hEnt hbd
            refine wp_norm (le_walk _ (fun _ _ _ _ _ h => h) wr pb rb (qs r) n2 c2 r hlr ao2 (.pointer (some ⟨xs r, 0, none⟩)) (fun lb w2 => ItA w2 (itV lb) V ∧ Below wr.drew.heap.size wr.drew w2) (fun lb w2 => ItA w2 (itV lb) V ∧ Below (wr.drew.alloc (.cells #[.nilFunc, .slice none 0 0] KPT)).heap.size (wr.drew.alloc (.cells #[.nilFunc, .slice none 0 0] KPT)) w2) (HEnt.out _ (Below.refl _ _)).1 (HEnt.out _ (below_alloc _ _)).1 (HEnt.out _ (Below.refl _ _)).2.2 (HEnt.out _ (below_alloc _ _)).2.2
              (fun lb w2 h => ⟨(HEnt.out _ h.2).1, (HEnt.out _ (h.2.trans ((below_alloc w2 _).mono h.2.size))).1⟩)
              (fun lb w2 h => ⟨(HEnt.out _ ((below_alloc wr.drew _).trans (h.2.mono (below_alloc wr.drew _).size))).1, (made_set2 h.2 .nilFunc .nilFunc).1⟩)
              (fun lb w2 h => (HEnt.out _ (h.2.trans ((made_set w2 _ _).2.mono h.2.size))).1)
              (fun lb w2 h => (HEnt.out _ (made_set2 h.2 _ _).2.2.2).1) _ ?_ ?_ ?_ ?_ ?_ ?_)
            any_goals rfl
            · exact Nat.lt_of_sub_pos (by exact Nat.succ_pos _)
            · rintro lb w2 ⟨hit, hb2⟩
              have HB4 := hide (hb2.trans ((made_set w2 (itV lb) (.slice ao2 n2 c2)).2.mono hb2.size))
              have HE4 : Hid (Blk ((w2.alloc (.cells #[.nilFunc, .slice none 0 0] KPT)).setCells w2.heap.size 0 [itV lb, .slice ao2 n2 c2]) w2.heap.size #[itV lb, .slice ao2 n2 c2] KPT) := hide ((made_set w2 _ _).1)
              have HIT := hide (hit.keepB (KeepB.below (made_set w2 (itV lb) (.slice ao2 n2 c2)).2))
              obtain ⟨W4, hW4⟩ : ∃ W4, W4 = (w2.alloc (.cells #[.nilFunc, .slice none 0 0] KPT)).setCells w2.heap.size 0 [itV lb, .slice ao2 n2 c2] := ⟨_, rfl⟩
              obtain ⟨eb, heb⟩ : ∃ eb, eb = w2.heap.size := ⟨_, rfl⟩
              rw [← hW4] at HB4 HE4 HIT ⊢
              rw [← heb] at HE4 ⊢
              clear hW4 heb
              simp only [Act.put, List.setIfInBounds_toArray, List.set_cons_zero, List.set_cons_succ, Exit.then]
              have HS4 := hide (HSd.out.below HB4.out)
              have h3 := HEnt.out W4 HB4.out
              have cP := fun d os => cell_regrown h3.1.1 d os
              have cR := fun d os => cell_regrown h3.1.2.1 d os
              have cQ := fun d os => cell_regrown h3.1.2.2 d os
              have lQ := World.block_lt_of_cell? W4 _ h3.1.2.2
              have HT4 : Hid (∀ d os, Calls Try.prog 11 #[.agg #[itV lb, .slice ao2 n2 c2]] (grow (redrawn W4 d) os) fun e w' => e = .returned (.bool true) ∧ Below (grow (redrawn W4 d) os).heap.size (grow (redrawn W4 d) os) w') := hide (fun d os => tells_any _ (HIT.out.keepB (KeepB.below (below_regrown W4 d os))) (h3.2.1.below (below_regrown W4 d os)) HVl.out)
              have HL4 : Hid (∀ d os, Calls Try.prog 12 #[.pointer (some ⟨xs r, 0, none⟩)] (grow (redrawn W4 d) os) fun e w' => e = .returned (.int .i64 (n2 : Int)) ∧ Below (grow (redrawn W4 d) os).heap.size (grow (redrawn W4 d) os) w') := hide (fun d os => by rw [HNV.out]; exact IxQ.len (.inr ⟨_, i, _, rfl, (HS4.out.below (below_regrown W4 d os)).ix r HR2.out⟩) HMp.out)
              have HRE : Hid (∀ d os, (grow (redrawn W4 d) os).rangeAt eb 0 [itV lb, .slice ao2 n2 c2]) := hide (fun d os => Blk.range (HE4.out.below (below_regrown W4 d os) HE4.out.lt))
              clear h3 HIT HE4 HSd HEnt HB4
              go_upto_region 30 with fail
              refine wp_region_quiet_below (by kernel_rfl) (by kernel_rfl) ?_
              refine wpQuiet_val (.agg #[itV lb, .slice ao2 n2 c2]) rfl (fun w0 hw => ?_) ?_
              · obtain ⟨p0, rfl⟩ := hw
                exact run_loadO rfl rfl (run_ldKPT (HRE.out _ _))
              quiet_step (exact Calls.regrown_of (HT4.out _ _))
              iterate 3 quiet_step (fail)
              refine wpQuiet_val (.pointer (some ⟨pb, r, none⟩)) rfl (fun w0 _ => run_ixP rfl rfl rfl HR2.out w0) ?_
              quiet_step (fail)
              quiet_step (exact Calls.regrown_of (HL4.out _ _))
              quiet_step (fail)
              refine wpQuiet_val (.pointer (some ⟨rb, r, none⟩)) rfl (fun w0 _ => run_ixR rfl rfl rfl HR2.out w0) ?_
              iterate 7 quiet_step (fail)
              refine wpQuiet_nil ?_
              intro w1 hw1
              have hb1 : RowKit.Below W4.heap.size W4 w1 := below_of hw1
              have HS5 := hide (HS4.out.below hb1)
              clear hw1 hb1 HS4 HT4 HL4 HRE cP cR cQ lQ
              go_wp2
              go_roundw
              case rel => exact ⟨r + 1, rfl, by omega, HS5.out⟩
              case measure => simp [intOf]; omega
            · rintro lb w2 ⟨hit, hb2⟩
              have HB4 := hide ((made_set2 hb2 (itV lb) (.slice ao2 n2 c2)).2.2.2)
              have HE4 : Hid (Blk (w2.setCells wr.drew.heap.size 0 [itV lb, .slice ao2 n2 c2]) wr.drew.heap.size #[itV lb, .slice ao2 n2 c2] KPT) := hide ((made_set2 hb2 _ _).2.1)
              have HIT := hide (hit.keepB (KeepB.grown (made_set2 hb2 (itV lb) (.slice ao2 n2 c2)).2.2.1 (fun cs t hb => by have e := Option.some.inj (((made_set2 hb2 .nilFunc .nilFunc).1).symm.trans hb); cases e; exact ⟨by decide, by decide⟩)))
              obtain ⟨W4, hW4⟩ : ∃ W4, W4 = w2.setCells wr.drew.heap.size 0 [itV lb, .slice ao2 n2 c2] := ⟨_, rfl⟩
              obtain ⟨eb, heb⟩ : ∃ eb, eb = wr.drew.heap.size := ⟨_, rfl⟩
              rw [← hW4] at HB4 HE4 HIT ⊢
              rw [← heb] at HE4 ⊢
              clear hW4 heb
              simp only [Act.put, List.setIfInBounds_toArray, List.set_cons_zero, List.set_cons_succ, Exit.then]
              have HS4 := hide (HSd.out.below HB4.out)
              have h3 := HEnt.out W4 HB4.out
              have cP := fun d os => cell_regrown h3.1.1 d os
              have cR := fun d os => cell_regrown h3.1.2.1 d os
              have cQ := fun d os => cell_regrown h3.1.2.2 d os
              have lQ := World.block_lt_of_cell? W4 _ h3.1.2.2
              have HT4 : Hid (∀ d os, Calls Try.prog 11 #[.agg #[itV lb, .slice ao2 n2 c2]] (grow (redrawn W4 d) os) fun e w' => e = .returned (.bool true) ∧ Below (grow (redrawn W4 d) os).heap.size (grow (redrawn W4 d) os) w') := hide (fun d os => tells_any _ (HIT.out.keepB (KeepB.below (below_regrown W4 d os))) (h3.2.1.below (below_regrown W4 d os)) HVl.out)
              have HL4 : Hid (∀ d os, Calls Try.prog 12 #[.pointer (some ⟨xs r, 0, none⟩)] (grow (redrawn W4 d) os) fun e w' => e = .returned (.int .i64 (n2 : Int)) ∧ Below (grow (redrawn W4 d) os).heap.size (grow (redrawn W4 d) os) w') := hide (fun d os => by rw [HNV.out]; exact IxQ.len (.inr ⟨_, i, _, rfl, (HS4.out.below (below_regrown W4 d os)).ix r HR2.out⟩) HMp.out)
              have HRE : Hid (∀ d os, (grow (redrawn W4 d) os).rangeAt eb 0 [itV lb, .slice ao2 n2 c2]) := hide (fun d os => Blk.range (HE4.out.below (below_regrown W4 d os) HE4.out.lt))
              clear h3 HIT HE4 HSd HEnt HB4
              go_upto_region 30 with fail
              refine wp_region_quiet_below (by kernel_rfl) (by kernel_rfl) ?_
              refine wpQuiet_val (.agg #[itV lb, .slice ao2 n2 c2]) rfl (fun w0 hw => ?_) ?_
              · obtain ⟨p0, rfl⟩ := hw
                exact run_loadO rfl rfl (run_ldKPT (HRE.out _ _))
              quiet_step (exact Calls.regrown_of (HT4.out _ _))
              iterate 3 quiet_step (fail)
              refine wpQuiet_val (.pointer (some ⟨pb, r, none⟩)) rfl (fun w0 _ => run_ixP rfl rfl rfl HR2.out w0) ?_
              quiet_step (fail)
              quiet_step (exact Calls.regrown_of (HL4.out _ _))
              quiet_step (fail)
              refine wpQuiet_val (.pointer (some ⟨rb, r, none⟩)) rfl (fun w0 _ => run_ixR rfl rfl rfl HR2.out w0) ?_
              iterate 7 quiet_step (fail)
              refine wpQuiet_nil ?_
              intro w1 hw1
              have hb1 : RowKit.Below W4.heap.size W4 w1 := below_of hw1
              have HS5 := hide (HS4.out.below hb1)
              clear hw1 hb1 HS4 HT4 HL4 HRE cP cR cQ lQ
              go_wp2
              go_roundw
              case rel => exact ⟨r + 1, rfl, by omega, HS5.out⟩
              case measure => simp [intOf]; omega
          · have hj2 : ¬ (r : Int) < 2 := by omega
            go_wp2
            go_ret
            exact ⟨rfl, by rw [← HN.out]; exact HSl.out.bel⟩
end TX
end Go.Proofs.Ytdigjpddmfolgaa

/- IndexExact: for every input the call returns true, and the argument reads afterwards as it read before. No condition beside the form's own reach. -/
namespace Go.Proofs.Ytdigjpddmfolgaa
set_option linter.unusedVariables false
set_option linter.unusedSimpArgs false
open Go.ChangeShapes Go.WideShapes Go.ChangeAt Go.RowKit Go.Deep

namespace TX
theorem ownA : ownKnob Try.prog.godebug = none := by kernel_rfl
theorem laidOutA : laidOutB Try.prog = true := by kernel_rfl
theorem bulk_posA {H : Type} (d : DataW H) : 1 ≤ Rows.uptoBulk d := by
  cases d with
  | lit l => cases l <;> simp [Rows.uptoBulk]
  | _ => simp [Rows.uptoBulk]
theorem bulk_lenA {H : Type} : ∀ l : List (DataW H), l.length ≤ Rows.uptoBulkAll l
  | [] => by simp
  | d :: l => by
    have h1 := bulk_posA d
    have h2 := bulk_lenA l
    simp only [Rows.uptoBulkAll, List.length_cons]
    omega
theorem small_leA {H : Type} {l : List (DataW H)} (hk : Rows.uptoSmall H l = true) : Rows.uptoBulkAll l ≤ 1048576 := of_decide_eq_true hk
theorem cellsU8 : Try.prog.cellsOf 5 = 1 := by kernel_rfl
theorem cellsKeyA : Try.prog.cellsOf 32 = 32 := by kernel_rfl
theorem open_keyC {H : Type} {enc : TypeId × Value → H} {W : World} {base : Nat} {spare : Nat → Bool} {held : Bool} {fuel : Nat} {cs : List Value} {x : DataW H × List MemPlace}
    (h : DataW.trod enc Try.prog W base spare held fuel 32 cs = some x) : ∃ k : KY, cs = kC k := by
  obtain ⟨xs, m, _, _, hl, hxl, hx⟩ := DataW.trod_array Try.underlying32 h
  rw [cellsKeyA] at hl
  have each : ∀ i, i < 32 → ∃ b : UInt8, cs[i]? = some (u8c b) := by
    intro i hi
    have h1 := hx i hi
    rw [cellsU8, Nat.mul_one, List.getElem?_eq_getElem (by omega)] at h1
    obtain ⟨n, hn, _, hw⟩ := DataW.trod_int Try.underlying5 h1
    have hb : 0 ≤ n ∧ n ≤ 255 := by simpa [Lit.wf, IntKind.min, IntKind.max, IntKind.signed, IntKind.bits] using hw
    refine ⟨UInt8.ofNat n.toNat, ?_⟩
    rw [List.drop_eq_getElem_cons (show i < cs.length by omega)] at hn
    have h2 : cs[i]'(by omega) = .int .u8 n := (List.cons.inj hn).1
    rw [List.getElem?_eq_getElem (by omega), h2]
    unfold u8c
    rw [UInt8.toNat_ofNat']
    congr 2
    omega
  obtain ⟨f, hf⟩ := choose_lt each
  refine ⟨⟨(List.range 32).map f, by simp⟩, ?_⟩
  apply List.ext_getElem?
  intro i
  unfold kC
  rcases Nat.lt_or_ge i 32 with hi | hi
  · rw [hf i hi]
    simp [hi]
  · rw [List.getElem?_eq_none (by omega), List.getElem?_eq_none (by simpa using hi)]
theorem cellsIntA : Try.prog.cellsOf 3 = 1 := by kernel_rfl
theorem cellsBoolA : Try.prog.cellsOf 4 = 1 := by kernel_rfl
theorem cellsU32A : Try.prog.cellsOf 35 = 1 := by kernel_rfl
theorem cellsPlaceA : Try.prog.cellsOf 34 = 2 := by kernel_rfl
theorem cellsEntA : Try.prog.cellsOf 37 = 4 := by kernel_rfl
theorem cellsStepA : Try.prog.cellsOf 39 = 45 := by kernel_rfl
section
variable {H : Type} {enc : TypeId × Value → H} {W : World} {base : Nat} {spare : Nat → Bool} {held : Bool} {fuel : Nat} {cs : List Value} {x : DataW H × List MemPlace}
theorem cut (cs : List Value) (o n : Nat) : cs.drop o = (cs.drop o).take n ++ cs.drop (o + n) := by
  rw [← List.drop_drop]; exact (List.take_append_drop n _).symm
theorem cut0 (cs : List Value) (n : Nat) (h : cs.length = n) : cs.drop n = [] := List.drop_of_length_le (by omega)
theorem open_plC (h : DataW.trod enc Try.prog W base spare held fuel 34 cs = some x) : ∃ p : PL, cs = plC p := by
  obtain ⟨ys, m, _, _, hl, hyl, hf⟩ := DataW.trod_struct Try.underlying34 h
  rw [cellsPlaceA] at hl
  have hyl2 : ys.length = 2 := hyl
  have g0 : DataW.trod enc Try.prog W base spare held m 3 ((cs.drop 0).take (Try.prog.cellsOf 3)) = ys[0]? := hf 0 _ rfl
  have g1 : DataW.trod enc Try.prog W base spare held m 3 ((cs.drop 1).take (Try.prog.cellsOf 3)) = ys[1]? := hf 1 _ rfl
  rw [cellsIntA, List.getElem?_eq_getElem (by omega)] at g0 g1
  obtain ⟨s, f0, _, _⟩ := DataW.trod_int Try.underlying3 g0
  obtain ⟨o, f1, _, _⟩ := DataW.trod_int Try.underlying3 g1
  refine ⟨⟨s, o⟩, ?_⟩
  rw [show cs = cs.drop 0 from rfl, cut cs 0 1, f0, cut cs 1 1, f1, cut0 cs 2 hl]
  rfl
theorem open_eC (h : DataW.trod enc Try.prog W base spare held fuel 37 cs = some x) : ∃ e : EN, cs = eC e := by
  obtain ⟨ys, m, _, _, hl, hyl, hf⟩ := DataW.trod_struct Try.underlying37 h
  rw [cellsEntA] at hl
  have hyl2 : ys.length = 3 := hyl
  have g0 : DataW.trod enc Try.prog W base spare held m 34 ((cs.drop 0).take (Try.prog.cellsOf 34)) = ys[0]? := hf 0 _ rfl
  have g1 : DataW.trod enc Try.prog W base spare held m 3 ((cs.drop 2).take (Try.prog.cellsOf 3)) = ys[1]? := hf 1 _ rfl
  have g2 : DataW.trod enc Try.prog W base spare held m 35 ((cs.drop 3).take (Try.prog.cellsOf 35)) = ys[2]? := hf 2 _ rfl
  rw [cellsPlaceA, List.getElem?_eq_getElem (by omega)] at g0
  rw [cellsIntA, List.getElem?_eq_getElem (by omega)] at g1
  rw [cellsU32A, List.getElem?_eq_getElem (by omega)] at g2
  obtain ⟨p, f0⟩ := open_plC g0
  obtain ⟨s, f1, _, _⟩ := DataW.trod_int Try.underlying3 g1
  obtain ⟨o, f2, _, _⟩ := DataW.trod_int Try.underlying35 g2
  refine ⟨⟨p.sg, p.of, s, o⟩, ?_⟩
  rw [show cs = cs.drop 0 from rfl, cut cs 0 2, f0, cut cs 2 1, f1, cut cs 3 1, f2, cut0 cs 4 hl]
  rfl
theorem open_spC (h : DataW.trod enc Try.prog W base spare held fuel 39 cs = some x) : ∃ s : SP, cs = spC s := by
  obtain ⟨ys, m, _, _, hl, hyl, hf⟩ := DataW.trod_struct Try.underlying39 h
  rw [cellsStepA] at hl
  have hyl2 : ys.length = 9 := hyl
  have g0 : DataW.trod enc Try.prog W base spare held m 3 ((cs.drop 0).take (Try.prog.cellsOf 3)) = ys[0]? := hf 0 _ rfl
  have g1 : DataW.trod enc Try.prog W base spare held m 3 ((cs.drop 1).take (Try.prog.cellsOf 3)) = ys[1]? := hf 1 _ rfl
  have g2 : DataW.trod enc Try.prog W base spare held m 4 ((cs.drop 2).take (Try.prog.cellsOf 4)) = ys[2]? := hf 2 _ rfl
  have g3 : DataW.trod enc Try.prog W base spare held m 32 ((cs.drop 3).take (Try.prog.cellsOf 32)) = ys[3]? := hf 3 _ rfl
  have g4 : DataW.trod enc Try.prog W base spare held m 37 ((cs.drop 35).take (Try.prog.cellsOf 37)) = ys[4]? := hf 4 _ rfl
  have g5 : DataW.trod enc Try.prog W base spare held m 35 ((cs.drop 39).take (Try.prog.cellsOf 35)) = ys[5]? := hf 5 _ rfl
  have g6 : DataW.trod enc Try.prog W base spare held m 34 ((cs.drop 40).take (Try.prog.cellsOf 34)) = ys[6]? := hf 6 _ rfl
  have g7 : DataW.trod enc Try.prog W base spare held m 34 ((cs.drop 42).take (Try.prog.cellsOf 34)) = ys[7]? := hf 7 _ rfl
  have g8 : DataW.trod enc Try.prog W base spare held m 4 ((cs.drop 44).take (Try.prog.cellsOf 4)) = ys[8]? := hf 8 _ rfl
  rw [cellsIntA, List.getElem?_eq_getElem (by omega)] at g0 g1
  rw [cellsBoolA, List.getElem?_eq_getElem (by omega)] at g2 g8
  rw [cellsKeyA, List.getElem?_eq_getElem (by omega)] at g3
  rw [cellsEntA, List.getElem?_eq_getElem (by omega)] at g4
  rw [cellsU32A, List.getElem?_eq_getElem (by omega)] at g5
  rw [cellsPlaceA, List.getElem?_eq_getElem (by omega)] at g6 g7
  obtain ⟨kd, f0, _, _⟩ := DataW.trod_int Try.underlying3 g0
  obtain ⟨on, f1, _, _⟩ := DataW.trod_int Try.underlying3 g1
  obtain ⟨no, f2, _⟩ := DataW.trod_bool Try.underlying4 g2
  obtain ⟨k, f3⟩ := open_keyC g3
  obtain ⟨e, f4⟩ := open_eC g4
  obtain ⟨ep, f5, _, _⟩ := DataW.trod_int Try.underlying35 g5
  obtain ⟨fr, f6⟩ := open_plC g6
  obtain ⟨to, f7⟩ := open_plC g7
  obtain ⟨any, f8, _⟩ := DataW.trod_bool Try.underlying4 g8
  refine ⟨⟨kd, on, no, k, e, ep, fr, to, any⟩, ?_⟩
  rw [show cs = cs.drop 0 from rfl, cut cs 0 1, f0, cut cs 1 1, f1, cut cs 2 1, f2, cut cs 3 32, f3, cut cs 35 4, f4, cut cs 39 1, f5, cut cs 40 2, f6, cut cs 42 2, f7, cut cs 44 1, f8, cut0 cs 45 hl]
  simp only [spC, List.append_assoc, List.cons_append, List.nil_append, List.append_nil]
end
/-- A script opened. -/
theorem open_sps {H : Type} {enc : TypeId × Value → H} {W : World} {fuel : Nat} {v : Value} {d : DataW H} {p : List MemPlace}
    (h : DataW.trod enc Try.prog W 0 (fun _ => true) true fuel 22 [v] = some (d, p)) : ∃ L : List SP, SpR W v L ∧ L.length + 1 ≤ Rows.uptoBulk d ∧ (L.length = 0 ∨ ∃ elems spare, d = .slice elems spare ∧ L.length = elems.length) := by
  rcases open_slice Try.underlying22 h with ⟨hcs, hx⟩ | ⟨a, len, cap, m, q, D, Pl, hcs, _, hl, hm, hmm, hx, hxr⟩
  · exact ⟨[], ⟨none, 0, (List.cons.inj hcs).1, fun h => absurd h (by decide)⟩, bulk_posA d, .inl rfl⟩
  · simp only [if_true] at hmm
    rw [cellsStepA] at hxr
    have each : ∀ i, i < len → ∃ x : SP, ∃ b o, a = ⟨b, o, none⟩ ∧ W.rangeAt b (o + i * 45) (spC x) := by
      intro i hi
      obtain ⟨cs', h1, ht⟩ := hxr i (by omega)
      obtain ⟨_, hl32, hc⟩ := World.cells?_some h1
      obtain ⟨x, rfl⟩ := open_spC ht
      obtain ⟨b, o, rfl⟩ : ∃ b o, a = ⟨b, o, none⟩ := by
        obtain ⟨cs0, h10, _⟩ := hxr 0 (by omega)
        obtain ⟨_, hl0, hc0⟩ := World.cells?_some h10
        have h2 := hc0 0 (by omega)
        rw [List.getElem?_eq_getElem (by omega)] at h2
        obtain ⟨b, o, spot⟩ := a
        have hs : spot = none := by simpa [Addr.add] using World.cell?_spot h2
        exact ⟨b, o, by rw [hs]⟩
      refine ⟨x, b, o, rfl, fun j u hj => ?_⟩
      have hjl : j < 45 := by
        have := (List.getElem?_eq_some_iff.1 hj).1
        rw [spC_len] at this
        exact this
      have h2 := hc j hjl
      rw [Addr.add_mid, Addr.add_mid] at h2
      rw [h2]; exact hj
    haveI : Inhabited SP := ⟨sZ⟩
    obtain ⟨f, hf⟩ := choose_lt each
    refine ⟨(List.range len).map f, ⟨some a, cap, ?_, fun hp => ?_⟩, ?_, .inr ⟨_, _, (Prod.mk.inj hx).1, by simp⟩⟩
    · rw [List.length_map, List.length_range]
      exact (List.cons.inj hcs).1
    · obtain ⟨b, o, rfl, _⟩ := hf 0 (by simpa using hp)
      refine ⟨b, o, rfl, fun j x hj => ?_⟩
      obtain ⟨hj1, hj2⟩ := List.getElem?_eq_some_iff.1 hj
      have hjl : j < len := by simpa using hj1
      obtain ⟨b2, o2, e2, hr⟩ := hf j hjl
      cases e2
      have e : f j = x := by rw [← hj2]; simp
      rw [← e]
      exact hr
    · have hd := (Prod.mk.inj hx).1
      rw [hd]
      have := bulk_lenA ((List.range len).map D)
      simp only [List.length_map, List.length_range] at this ⊢
      simp only [Rows.uptoBulk]
      omega
theorem bytesStepA : Try.prog.bytesOf 39 = 136 := by kernel_rfl
theorem sized_topA {H : Type} {P : Program} {ts : List TypeId} {ds : List (DataW H)} (h : (DataW.weightsEach P ts ds).all (· ≤ reachBytes) = true) {j : Nat} {t e : TypeId} {elems spare : List (DataW H)}
    (ht : ts[j]? = some t) (hd : ds[j]? = some (.slice elems spare)) (hu : P.underlying t = some (.slice e)) : (elems.length + spare.length) * P.bytesOf e ≤ reachBytes := by
  refine of_decide_eq_true (List.all_eq_true.1 h _ (DataW.weights_mem_each ht hd _ ?_))
  simp [DataW.weights, hu]
end TX
set_option maxRecDepth 100000 in
theorem indexExact_lifted (os : Os) (started : os.Started) (H : Type) (enc : TypeId × Value → H) :
    ReturnsInHanded {} Try.checked os 3 .any (Rows.indexExactSpec.pre6 enc Try.prog Try.f3 Rows.indexExactRow.domain false) (Rows.indexExactSpec.post enc Try.prog Try.f3 false true false false) := by
  refine returnsInHanded_of_change_sized (C := Try.checked) TX.ownA started (by kernel_rfl) Try.func3
    (ChangeSpec.witness6 (enc := enc) (C := Try.checked) false ⟨#[], #[.slice none 0 0], []⟩ 8 (by kernel_rfl) (by kernel_rfl) (by kernel_rfl) (by kernel_rfl)) ?_
  intro W base args ds gs before hval0 hW _ hsz0 _
  have hsz : (DataW.weightsEach Try.prog (Try.f3.params.toList ++ Rows.indexExactSpec.plain.varTypes Try.prog) (ds ++ gs)).all (· ≤ reachBytes) = true := hsz0
  have hval : ∀ (j : Nat) t v, Try.f3.params[j]? = some t → args[j]? = some v → Value.okWide Try.prog W .any base t v := hval0
  have hW' := hW
  obtain ⟨p, q, hA0, hV, rfl, hfz, hnd⟩ := hW
  have hA : DataW.TrodAll enc Try.prog W 0 (fun _ => true) true Try.f3.params.toList args.toList ds p := hA0
  rw [Try.params3] at hA hval hsz
  obtain ⟨v0, vs0, d0, ds0, p0, q0, hargs, rfl, rfl, h0, r0⟩ := trodAll_cons hA
  obtain ⟨rfl, rfl, rfl⟩ := trodAll_nil r0
  obtain rfl : args = #[v0] := by cases args; simp_all
  obtain ⟨rfl, rfl⟩ := trodVars_none hV
  have k0 := h0
  have lt0 : ∀ x ∈ p0, x.block < W.heap.size := by obtain ⟨m, hm⟩ := k0; exact DataW.trod_lt m _ _ _ hm
  obtain ⟨fuel0, hf0⟩ := h0
  obtain ⟨aa, n, c, rfl⟩ := okWide_slice Try.underlying22 (hval 0 22 v0 rfl rfl)
  obtain ⟨SC, hS, _, hd⟩ := TX.open_sps (v := .slice aa n c) hf0
  have hb : SC.length ≤ 1099511627775 := by
    rcases hd with h | ⟨elems, spare, rfl, h⟩
    · omega
    · have := TX.sized_topA hsz (j := 0) (t := 22) (e := 39) rfl rfl Try.underlying22
      rw [TX.bytesStepA] at this
      unfold reachBytes at this
      omega
  clear hA0 hval0 hsz0
  refine (TX.exact_law W _ SC hS hb).mono fun e W' ⟨he, bel⟩ => ?_
  subst he
  exact ⟨_, rfl, _, _, _, [], _, [], hW', trodAll_mk1 (shut_bool Try.underlying4 _), (trodAll_cons_mk (Below.trod TX.laidOutA (by kernel_rfl) (of_decide_eq_true (by kernel_rfl)) k0 bel lt0) trodAll_mk0), rfl, bel.frame _, fun h => by cases h⟩

theorem indexExact_holds : Rows.IndexExactSaid :=
  OpenClaim.holds_of_wide 3 Try.f3 rfl rfl rfl rfl rfl rfl rfl ⟨rfl, rfl, rfl, rfl, rfl⟩ rfl rfl rfl rfl rfl (by kernel_rfl) Try.func3 (by kernel_rfl)
    (of_decide_eq_true (by kernel_rfl)) (by unfold Func.isWrapper; first | (rw [if_pos (by decide +kernel)]; kernel_rfl) | (rw [if_neg (by decide +kernel)]; exact ⟨rfl, rfl⟩))
    (fun os started H enc _ => indexExact_lifted os started H enc)
#print axioms indexExact_holds
end Go.Proofs.Ytdigjpddmfolgaa
