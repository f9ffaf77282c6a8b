/- KeySets: the state of the law. -/
import Derived.Test.YtnloglecfbhpcaaKT1
import Derived.Test.YtnloglecfbhpcaaKM5
import Derived.Maps.AppendAt
namespace Go.Proofs.Ytnloglecfbhpcaa
set_option linter.unusedVariables false
set_option linter.unusedSimpArgs false
open Go.RowKit Go.Sort Go.Shelf
set_option maxRecDepth 100000
set_option maxHeartbeats 4000000

abbrev WT : TypeId := 32
abbrev KPLT : TypeId := 30
abbrev SPT : TypeId := 41
abbrev RST : TypeId := 48
abbrev KLT : TypeId := 39
/-- Only blocks of T, and new ones, have changed. -/
structure Tch (T : Nat → Prop) (W W' : World) : Prop where
  os : W'.os = W.os
  tape : W'.tape = W.tape
  output : W'.output = W.output
  size : W.heap.size ≤ W'.heap.size
  block : ∀ k, k < W.heap.size → ¬ T k → W'.heap[k]? = W.heap[k]?
theorem Tch.below {T : Nat → Prop} {W W' : World} (h : Below W.heap.size W W') : Tch T W W' := ⟨h.os, h.tape, h.output, h.size, fun k hk _ => h.block k hk⟩
theorem Tch.grown {T : Nat → Prop} {W W' : World} {r : Nat} (h : W.grownBy W' (some r)) (hr : T r) : Tch T W W' := ⟨h.os, h.tape, h.output, h.size, fun k hk hn => h.block k hk (fun e => hn (by rw [Option.some.inj e]; exact hr))⟩
theorem Tch.trans {T : Nat → Prop} {A B C : World} (h : Tch T A B) (k : Tch T B C) : Tch T A C := ⟨k.os.trans h.os, k.tape.trans h.tape, k.output.trans h.output, Nat.le_trans h.size k.size, fun i hi hn => (k.block i (Nat.lt_of_lt_of_le hi h.size) hn).trans (h.block i hi hn)⟩
theorem Tch.mono {T T' : Nat → Prop} {W W' : World} (h : Tch T W W') (ht : ∀ k, T k → T' k) : Tch T' W W' := ⟨h.os, h.tape, h.output, h.size, fun k hk hn => h.block k hk (fun e => hn (ht k e))⟩
theorem Tch.bel {T : Nat → Prop} {N : Nat} {w0 W W' : World} (h : Tch T W W') (hb : Below N w0 W) (hN : N ≤ W.heap.size) (ht : ∀ k, T k → N ≤ k) : Below N w0 W' :=
  ⟨h.os.trans hb.os, h.tape.trans hb.tape, h.output.trans hb.output, Nat.le_trans hb.size h.size, fun k hk => (h.block k (by omega) (fun e => by have := ht k e; omega)).trans (hb.block k hk)⟩
/-- What iterators and rows of keys lie in stays. -/
def KeepV (W W' : World) : Prop := KeepU W W' ∧ ∀ (b : Nat) (cs : Array Value), Blk W b cs KLT → W'.heap[b]? = W.heap[b]?
theorem KeepV.below {W W' : World} (h : Below W.heap.size W W') : KeepV W W' := ⟨KeepU.below h, fun b cs hb => h.block b hb.lt⟩
theorem KeepV.tch {T : Nat → Prop} {W W' : World} (h : Tch T W W') (hn : ∀ k, T k → NoU W k) (hk : ∀ k cs, T k → ¬ Blk W k cs KLT) : KeepV W W' :=
  ⟨fun b o u hu => h.block b (World.block_lt_of_cell? W _ hu) (fun e => hn b e o u hu), fun b cs hb => h.block b hb.lt (fun e => hk b cs e hb)⟩
theorem ItK.keepV {W W' : World} {bx : Nat} {ks : List (List UInt8)} (h : ItK W bx ks) (hk : KeepV W W') : ItK W' bx ks := by
  obtain ⟨ao, cap, h1, h2⟩ := h
  exact ⟨ao, cap, (hk.2 bx _ h1).trans h1, h2.keepU hk.1⟩
def KsC (z : Value × Value) : List Value := [z.1, z.2]
theorem KsC_len (z : Value × Value) : (KsC z).length = 2 := rfl
/-- A row of what was kept. -/
def OwnP (w : World) (B : Nat) (v : Value) (KS : List (Value × Value)) : Prop := w.ownsRow B KPT 2 v KS.length (KS.flatMap KsC)
theorem OwnP.lt {w : World} {B : Nat} {v : Value} {V : List (Value × Value)} (h : OwnP w B v V) {b : Nat} (hb : v.ownBlock = some b) : b < w.heap.size ∧ B ≤ b := by
  obtain ⟨h0, ⟨rfl, h2⟩ | ⟨g, cap, cur, rfl, hB, hh, hx⟩⟩ := h
  · cases hb
  · cases hb; exact ⟨Blk.lt (cs := cur) (t := KPT) hh, hB⟩
theorem OwnP.same {w w' : World} {B : Nat} {v : Value} {V : List (Value × Value)} (h : OwnP w B v V) (hs : ∀ b, v.ownBlock = some b → w'.heap[b]? = w.heap[b]?) : OwnP w' B v V := by
  obtain ⟨h0, h1 | ⟨g, cap, cur, rfl, hB, hh, hx⟩⟩ := h
  · exact ⟨h0, .inl h1⟩
  · exact ⟨h0, .inr ⟨g, cap, cur, rfl, hB, (hs g rfl).trans hh, hx⟩⟩
theorem OwnP.blk {w : World} {B : Nat} {v : Value} {V : List (Value × Value)} (h : OwnP w B v V) {b : Nat} (hb : v.ownBlock = some b) : ∃ cs, Blk w b cs KPT := by
  obtain ⟨h0, ⟨rfl, h2⟩ | ⟨g, cap, cur, rfl, hB, hh, hx⟩⟩ := h
  · cases hb
  · cases hb; exact ⟨cur, hh⟩
theorem OwnP.below {w w' : World} {B : Nat} {v : Value} {V : List (Value × Value)} (h : OwnP w B v V) (hb : Below w.heap.size w w') : OwnP w' B v V := h.same (fun b e => hb.block b (h.lt e).1)
theorem OwnP.slice {w : World} {B : Nat} {v : Value} {V : List (Value × Value)} (h : OwnP w B v V) : ∃ ao c, v = .slice ao V.length c ∧ (0 < V.length → ∃ g, ao = some ⟨g, 0, none⟩) := by
  obtain ⟨h0, ⟨h1, h2⟩ | ⟨g, cap, cur, rfl, hb, hh, hx⟩⟩ := h
  · exact ⟨none, 0, by rw [h1, h2], fun h => by omega⟩
  · exact ⟨_, cap, rfl, fun _ => ⟨g, rfl⟩⟩
theorem flat_atP {α : Type} {f : α → List Value} {s : Nat} : ∀ (L : List α) (j : Nat) {x : α} (hl : ∀ y ∈ L, (f y).length = s) (hx : L[j]? = some x) (q : Nat) (u : Value), (f x)[q]? = some u → (L.flatMap f)[j * s + q]? = some u
  | [], j, x, _, hx, _, _, _ => by simp at hx
  | y :: L, 0, x, hl, hx, q, u, hu => by
    have e : y = x := by simpa using hx
    subst e
    rw [List.flatMap_cons, Nat.zero_mul, Nat.zero_add, List.getElem?_append_left (List.getElem?_eq_some_iff.1 hu).1]
    exact hu
  | y :: L, j + 1, x, hl, hx, q, u, hu => by
    have h1 := hl y (List.mem_cons_self ..)
    rw [List.flatMap_cons, List.getElem?_append_right (by rw [h1, Nat.succ_mul]; omega), h1, show (j + 1) * s + q - s = j * s + q by rw [Nat.succ_mul]; omega]
    exact flat_atP L j (fun z hz => hl z (List.mem_cons_of_mem _ hz)) (by simpa using hx) q u hu
theorem OwnP.read {w : World} {B : Nat} {v : Value} {V : List (Value × Value)} {g n c : Nat} (h : OwnP w B v V) (e : v = .slice (some ⟨g, 0, none⟩) n c) {j : Nat} {x : Value × Value} (hx : V[j]? = some x) : w.rangeAt g (j * 2) (KsC x) := fun q u hu => by
  rw [e] at h
  have hq := flat_atP V j (fun y _ => KsC_len y) hx q u hu
  have := World.ownsRow.cells (g := g) h rfl (j * 2 + q) u hq
  rw [Addr.add_mid] at this
  rw [← this]
  congr 2
  omega
theorem kpI : ∃ i, Try.prog.info? KPT = some i ∧ i.zero = some (.agg #[.nilFunc, .slice none 0 0]) ∧ i.size = 2 ∧ i.bytes = 32 := by
  have h : (Try.prog.info? KPT).map (fun i => (i.zero, i.size, i.bytes)) = some (some (.agg #[.nilFunc, .slice none 0 0]), 2, 32) := by kernel_rfl
  obtain ⟨i, hi, hzz⟩ := Option.map_eq_some_iff.1 h
  simp only [Prod.mk.injEq] at hzz
  exact ⟨i, hi, hzz.1, hzz.2.1, hzz.2.2⟩
theorem run_appP {w : World} {base : Nat} {v : Value} {A : List (Value × Value)} (hown : OwnP w base v A) {z lb n c : Nat} {ao : Option Addr} (hc : Blk w z #[riF lb, .slice ao n c] KPT) (hlen : A.length + 1 ≤ 1099511627776) (hbase : base ≤ w.heap.size) :
    ∃ v5 w5, (Builtin.append_ #[KPLT, KPLT] KPLT #[v, .slice (some ⟨z, 0, none⟩) 1 1]).run Try.prog w = .ok v5 w5 ∧ OwnP w5 base v5 (A ++ [(riF lb, .slice ao n c)]) ∧ w.grownBy w5 v.ownBlock := by
  obtain ⟨i0, hi, hz0, hz1, hz2⟩ := kpI
  obtain ⟨v', w', hr, r2, r3, _, _⟩ := run_append_own_at (P := Try.prog) w base KPLT KPLT KPT i0 (.agg #[.nilFunc, .slice none 0 0]) 2 32 Try.underlying30 hi hz0 hz1 hz2 rfl (by decide) v A.length (A.flatMap KsC) hown ⟨z, 0, none⟩ 1 1 [riF lb, .slice ao n c] rfl (fun j u hj => by rw [Addr.add_mid, hc.cell]; simpa using hj) (by intro u hu; simp only [List.mem_cons, List.not_mem_nil, or_false] at hu; rcases hu with rfl | rfl <;> rfl) (by unfold maxLen; omega) (by omega) hbase
  refine ⟨v', w', hr, ?_, r3⟩
  unfold OwnP
  rw [List.length_append, List.length_singleton, List.flatMap_append, List.flatMap_singleton]
  exact r2
def KsOk (W : World) (z : Value × Value) : Prop := ∃ lb ao n c V, z = (riF lb, .slice ao n c) ∧ ItK W lb V ∧ KRow W ao V ∧ n = V.length ∧ V.length ≤ 4398046510976
theorem KsOk.keepV {W W' : World} {z : Value × Value} (h : KsOk W z) (hk : KeepV W W') : KsOk W' z := by
  obtain ⟨lb, ao, n, c, V, e, h1, h2, h3, h4⟩ := h
  exact ⟨lb, ao, n, c, V, e, h1.keepV hk, h2.keepU hk.1, h3, h4⟩
/-- A set, and the document's beside it. -/
structure EL where
  q : Option Addr
  b : Nat
  z : Nat
  R : List (List UInt8)
structure ElS (TK : List (List UInt8)) (W : World) (e : EL) : Prop where
  set : (e.q = none ∧ e.R = []) ∨ ∃ zp S, e.q = some ⟨zp, 0, none⟩ ∧ SetAt W zp e.b S ∧ S.Nodup ∧ ∀ x, x ∈ S ↔ x ∈ e.R
  rs : RsB W e.z e.R
  ri : Rising e.R
  sub : ∀ x ∈ e.R, x ∈ TK
theorem ElS.below {TK : List (List UInt8)} {W W' : World} {e : EL} (h : ElS TK W e) (hb : Below W.heap.size W W') : ElS TK W' e := by
  refine ⟨?_, h.rs.below hb, h.ri, h.sub⟩
  rcases h.set with h1 | ⟨zp, S, h1, h2, h3⟩
  · exact .inl h1
  · exact .inr ⟨zp, S, h1, h2.below hb, h3⟩
theorem SetAt.tch {W W' : World} {zp b : Nat} {S : List (List UInt8)} (h : SetAt W zp b S) (h1 : W'.heap[zp]? = W.heap[zp]?) (h2 : W'.heap[b]? = W.heap[b]?) : SetAt W' zp b S := by
  refine ⟨h1.trans h.blk, ?_⟩
  obtain ⟨D, ⟨es, clock, hb, hx⟩, h3⟩ := h.set
  exact ⟨D, ⟨es, clock, h2.trans hb, hx⟩, h3⟩
theorem SetAt.map {W : World} {zp b : Nat} {S : List (List UInt8)} (h : SetAt W zp b S) : ∃ es clock, W.heap[b]? = some (.map es clock) := by
  obtain ⟨D, ⟨es, clock, hb, _⟩, _⟩ := h.set
  exact ⟨es, clock, hb⟩
theorem map_noBlk {W : World} {b : Nat} {es : Array MapEntry} {clock : Nat} (h : W.heap[b]? = some (.map es clock)) {cs : Array Value} {t : TypeId} : ¬ Blk W b cs t := fun hb => by
  unfold Blk at hb
  rw [h] at hb
  cases hb
theorem map_noU {W : World} {b : Nat} {es : Array MapEntry} {clock : Nat} (h : W.heap[b]? = some (.map es clock)) : NoU W b := fun o u hu => by
  unfold World.cell? at hu
  simp only [h] at hu
  cases hu
theorem ElS.len {TK : List (List UInt8)} {W : World} {e : EL} (h : ElS TK W e) : e.R.length ≤ TK.length := List.Nodup.length_le_of_subset (rising_nodup h.ri) (fun x hx => h.sub x hx)
theorem ElS.l32 {TK : List (List UInt8)} {W : World} {e : EL} (h : ElS TK W e) : ∀ x ∈ e.R, x.length = 32 := by
  obtain ⟨ao, n, c, hr⟩ := h.rs
  exact hr.row.len
/-- The set as the program's calls ask for it. -/
theorem ElS.q {TK : List (List UInt8)} {W : World} {e : EL} (h : ElS TK W e) : ∃ S, SetQ W e.q S ∧ S.Nodup ∧ (∀ x, x ∈ S ↔ x ∈ e.R) ∧ (∀ x ∈ S, x.length = 32) ∧ S.length = e.R.length := by
  rcases h.set with ⟨h1, h2⟩ | ⟨zp, S, h1, h2, h3, h4⟩
  · exact ⟨[], .inl ⟨h1, rfl⟩, List.nodup_nil, fun x => (by rw [h2]), fun x hx => (by cases hx), by rw [h2]⟩
  · exact ⟨S, .inr ⟨zp, e.b, h1, h2⟩, h3, h4, fun x hx => h.l32 x ((h4 x).1 hx), same_len h3 (rising_nodup h.ri) h4⟩
/-- The law's three sets. -/
def wA (E : Nat → EL) (kv : Value) : Array Value := #[.pointer (E 0).q, .pointer (E 1).q, .pointer (E 2).q, .pointer (some ⟨(E 0).z, 0, none⟩), .pointer (some ⟨(E 1).z, 0, none⟩), .pointer (some ⟨(E 2).z, 0, none⟩), .bool (E 0).q.isNone, .bool (E 1).q.isNone, .bool (E 2).q.isNone, kv]
theorem three_cases {j : Nat} (hj : j < 3) : j = 0 ∨ j = 1 ∨ j = 2 := by omega
/-- Between two steps. -/
structure LwS (TK : List (List UInt8)) (w0 W : World) (N wz : Nat) (E : Nat → EL) (kv : Value) (KS : List (Value × Value)) : Prop where
  bel : Below N w0 W
  wb : Blk W wz (wA E kv) WT
  lo : N ≤ wz
  el : ∀ i, i < 3 → ElS TK W (E i)
  low : ∀ i, i < 3 → N ≤ (E i).z ∧ ((E i).q ≠ none → N ≤ (E i).b)
  ap : ∀ i j, i < 3 → j < 3 → i ≠ j → (E i).z ≠ (E j).z ∧ ((E i).q ≠ none → (E j).q ≠ none → (E i).b ≠ (E j).b)
  kr : OwnP W N kv KS
  ks : ∀ z ∈ KS, KsOk W z
  nu : ∀ b, kv.ownBlock = some b → NoU W b
theorem NoU.same {W W' : World} {b : Nat} (h : NoU W b) (hb : W'.heap[b]? = W.heap[b]?) : NoU W' b := fun o u hu => h o u ((cell_of_heap hb).symm.trans hu)
section
variable {TK : List (List UInt8)} {w0 W W' : World} {N wz : Nat} {E : Nat → EL} {kv : Value} {KS : List (Value × Value)}
theorem LwS.sz (h : LwS TK w0 W N wz E kv KS) : N ≤ W.heap.size := by have h1 := h.lo; have h2 := h.wb.lt; omega
theorem LwS.below (h : LwS TK w0 W N wz E kv KS) (hb : Below W.heap.size W W') : LwS TK w0 W' N wz E kv KS :=
  ⟨h.bel.trans (hb.mono h.sz), h.wb.below hb h.wb.lt, h.lo, fun i hi => (h.el i hi).below hb, h.low, h.ap, h.kr.below hb, fun z hz => (h.ks z hz).keepV (KeepV.below hb), fun b e => (h.nu b e).same (hb.block b (h.kr.lt e).1)⟩
theorem LwS.cP (h : LwS TK w0 W N wz E kv KS) {j : Nat} (hj : j < 3) : W.cell? ⟨wz, j, none⟩ = some (.pointer (E j).q) := by
  rw [h.wb.cell]
  rcases three_cases hj with rfl | rfl | rfl <;> rfl
theorem LwS.cR (h : LwS TK w0 W N wz E kv KS) {j : Nat} (hj : j < 3) : W.cell? ⟨wz, 3 + j, none⟩ = some (.pointer (some ⟨(E j).z, 0, none⟩)) := by
  rw [h.wb.cell]
  rcases three_cases hj with rfl | rfl | rfl <;> rfl
theorem LwS.cN (h : LwS TK w0 W N wz E kv KS) {j : Nat} (hj : j < 3) : W.cell? ⟨wz, 6 + j, none⟩ = some (.bool (E j).q.isNone) := by
  rw [h.wb.cell]
  rcases three_cases hj with rfl | rfl | rfl <;> rfl
theorem LwS.cK (h : LwS TK w0 W N wz E kv KS) : W.cell? ⟨wz, 9, none⟩ = some kv := by rw [h.wb.cell]; rfl
def up {α : Type} (g : Nat → α) (j : Nat) (v : α) : Nat → α := fun i => if i = j then v else g i
theorem up_same {α : Type} (g : Nat → α) (j : Nat) (v : α) : up g j v j = v := by unfold up; rw [if_pos rfl]
theorem up_other {α : Type} (g : Nat → α) {i j : Nat} (v : α) (h : i ≠ j) : up g j v i = g i := by unfold up; rw [if_neg h]
/-- The blocks of one of the three that may change. -/
def TE (e : EL) (k : Nat) : Prop := (e.q ≠ none ∧ k = e.b) ∨ k = e.z
theorem noBlk_TE {e : EL} (h : ElS TK W e) {k : Nat} (hk : TE e k) {cs : Array Value} {t : TypeId} (ht : t ≠ RST) : ¬ Blk W k cs t := fun hb => by
  rcases hk with ⟨hq, rfl⟩ | rfl
  · rcases h.set with ⟨h1, _⟩ | ⟨zp, S, _, h2, _⟩
    · exact hq h1
    · obtain ⟨es, clock, hm⟩ := h2.map
      exact map_noBlk hm hb
  · obtain ⟨ao, n, c, hr⟩ := h.rs
    have h1 := hr.blk
    unfold Blk at h1 hb
    rw [h1] at hb
    have := Option.some.inj hb
    injection this with e1 e2
    exact ht e2.symm
theorem noU_TE {e : EL} (h : ElS TK W e) {k : Nat} (hk : TE e k) : NoU W k := by
  rcases hk with ⟨hq, rfl⟩ | rfl
  · rcases h.set with ⟨h1, _⟩ | ⟨zp, S, _, h2, _⟩
    · exact absurd h1 hq
    · obtain ⟨es, clock, hm⟩ := h2.map
      exact map_noU hm
  · exact h.rs.noU
/-- An element stays where another one's blocks changed. -/
theorem ElS.stay {e f : EL} {T : Nat → Prop} (h : ElS TK W e) (hT : Tch T W W') (hk : KeepV W W') (hz : ¬ T e.z) (hb : e.q ≠ none → ¬ T e.b) (hp : ∀ zp, e.q = some ⟨zp, 0, none⟩ → ¬ T zp) : ElS TK W' e := by
  refine ⟨?_, h.rs.keep hk.1 (hT.block _ h.rs.lt hz), h.ri, h.sub⟩
  rcases h.set with h1 | ⟨zp, S, h1, h2, h3⟩
  · exact .inl h1
  · obtain ⟨es, clock, hm⟩ := h2.map
    refine .inr ⟨zp, S, h1, h2.tch (hT.block _ h2.blk.lt (hp zp h1)) (hT.block _ (Array.getElem?_eq_some_iff.1 hm).1 (hb (by rw [h1]; exact fun e => by cases e))), h3⟩
/-- One of the three has changed. -/
theorem LwS.change (h : LwS TK w0 W N wz E kv KS) {i : Nat} (hi : i < 3) (hT : Tch (TE (E i)) W W') {R' : List (List UInt8)} (he : ElS TK W' ⟨(E i).q, (E i).b, (E i).z, R'⟩) : LwS TK w0 W' N wz (up E i ⟨(E i).q, (E i).b, (E i).z, R'⟩) kv KS := by
  have hel := h.el i hi
  have hkv : KeepV W W' := KeepV.tch hT (fun k hk => noU_TE hel hk) (fun k cs hk => noBlk_TE hel hk (by decide))
  have keep : ∀ {k : Nat} {cs : Array Value} {t : TypeId}, Blk W k cs t → t ≠ RST → W'.heap[k]? = W.heap[k]? := fun hb ht => hT.block _ hb.lt (fun e => noBlk_TE hel e ht hb)
  have hE : ∀ j, j < 3 → (up E i ⟨(E i).q, (E i).b, (E i).z, R'⟩ j).q = (E j).q ∧ (up E i ⟨(E i).q, (E i).b, (E i).z, R'⟩ j).b = (E j).b ∧ (up E i ⟨(E i).q, (E i).b, (E i).z, R'⟩ j).z = (E j).z := fun j _ => by
    by_cases e : j = i
    · subst e; rw [up_same]; exact ⟨rfl, rfl, rfl⟩
    · rw [up_other E _ e]; exact ⟨rfl, rfl, rfl⟩
  refine ⟨hT.bel h.bel h.sz (fun k hk => by
    rcases hk with ⟨hq, rfl⟩ | rfl
    · exact (h.low i hi).2 hq
    · exact (h.low i hi).1), ?_, h.lo, fun j hj => ?_, fun j hj => ?_, fun j k hj hk hne => ?_, h.kr.same (fun b e => by
    obtain ⟨cs, hc⟩ := h.kr.blk e
    exact keep hc (by decide)), fun z hz => (h.ks z hz).keepV hkv, fun b e => by
    obtain ⟨cs, hc⟩ := h.kr.blk e
    exact (h.nu b e).same (keep hc (by decide))⟩
  · have e : wA (up E i ⟨(E i).q, (E i).b, (E i).z, R'⟩) kv = wA E kv := by
      unfold wA
      rw [(hE 0 (by decide)).1, (hE 1 (by decide)).1, (hE 2 (by decide)).1, (hE 0 (by decide)).2.2, (hE 1 (by decide)).2.2, (hE 2 (by decide)).2.2]
    rw [e]
    exact (keep h.wb (by decide)).trans h.wb
  · by_cases e : j = i
    · subst e; rw [up_same]; exact he
    · rw [up_other E _ e]
      have ha := h.ap j i hj hi e
      refine (h.el j hj).stay (f := E i) hT hkv (fun ht => ?_) (fun hq ht => ?_) (fun zp hz ht => ?_)
      · rcases ht with ⟨hq, hb⟩ | hz
        · obtain ⟨ao, n, c, hr⟩ := (h.el j hj).rs
          rcases hel.set with ⟨h1, _⟩ | ⟨zp, S, _, h2, _⟩
          · exact hq h1
          · obtain ⟨es, clock, hm⟩ := h2.map
            rw [← hb] at hm
            exact map_noBlk hm hr.blk
        · exact ha.1 hz
      · rcases ht with ⟨hq2, hb⟩ | hz
        · exact ha.2 hq hq2 hb
        · obtain ⟨ao, n, c, hr⟩ := hel.rs
          rcases (h.el j hj).set with ⟨h1, _⟩ | ⟨zp, S, _, h2, _⟩
          · exact hq h1
          · obtain ⟨es, clock, hm⟩ := h2.map
            rw [hz] at hm
            exact map_noBlk hm hr.blk
      · rcases (h.el j hj).set with ⟨h1, _⟩ | ⟨zp', S, h1, h2, _⟩
        · rw [h1] at hz; cases hz
        · rw [h1] at hz
          cases hz
          exact noBlk_TE hel ht (by decide) h2.blk
  · obtain ⟨e1, e2, e3⟩ := hE j hj
    rw [e1, e2, e3]
    exact h.low j hj
  · obtain ⟨e1, e2, e3⟩ := hE j hj
    obtain ⟨f1, f2, f3⟩ := hE k hk
    rw [e1, e2, e3, f1, f2, f3]
    exact h.ap j k hj hk hne
/-- One of the three is new. -/
theorem LwS.renew (h : LwS TK w0 W N wz E kv KS) {i : Nat} (hi : i < 3) (hT : Tch (fun k => k = wz) W W') {e' : EL} (he : ElS TK W' e') (hz : W.heap.size ≤ e'.z) (hb : e'.q ≠ none → W.heap.size ≤ e'.b) (hw : Blk W' wz (wA (up E i e') kv) WT) : LwS TK w0 W' N wz (up E i e') kv KS := by
  have hs := h.sz
  have hkv : KeepV W W' := KeepV.tch hT (fun k hk => by rw [hk]; exact NoU.blk h.wb (fun v hv u e => by
      simp only [wA, List.mem_cons, List.not_mem_nil, or_false] at hv
      rcases hv with rfl | rfl | rfl | rfl | rfl | rfl | rfl | rfl | rfl | rfl <;> first | (cases e; done) | skip
      obtain ⟨ao, c, e2, _⟩ := h.kr.slice
      rw [e2] at e
      cases e)) (fun k cs hk hbk => by
      rw [hk] at hbk
      have h1 := h.wb
      unfold Blk at h1 hbk
      rw [h1] at hbk
      injection Option.some.inj hbk with e1 e2
      exact absurd e2 (by decide))
  have keep : ∀ {k : Nat} {cs : Array Value} {t : TypeId}, Blk W k cs t → t ≠ WT → W'.heap[k]? = W.heap[k]? := fun {k cs t} hbk ht => hT.block _ hbk.lt (fun e => by
    rw [e] at hbk
    have h1 := h.wb
    unfold Blk at h1 hbk
    rw [h1] at hbk
    injection Option.some.inj hbk with e1 e2
    exact ht e2.symm)
  have hzl : ∀ j, j < 3 → (E j).z < W.heap.size := fun j hj => (h.el j hj).rs.lt
  have hbl : ∀ j, j < 3 → (E j).q ≠ none → (E j).b < W.heap.size := fun j hj hq => by
    rcases (h.el j hj).set with ⟨h1, _⟩ | ⟨zp, S, _, h2, _⟩
    · exact absurd h1 hq
    · obtain ⟨es, clock, hm⟩ := h2.map
      exact (Array.getElem?_eq_some_iff.1 hm).1
  refine ⟨hT.bel h.bel hs (fun k hk => by rw [hk]; exact h.lo), hw, h.lo, fun j hj => ?_, fun j hj => ?_, fun j k hj hk hne => ?_, h.kr.same (fun b e => by
    obtain ⟨cs, hc⟩ := h.kr.blk e
    exact keep hc (by decide)), fun z hz => (h.ks z hz).keepV hkv, fun b e => by
    obtain ⟨cs, hc⟩ := h.kr.blk e
    exact (h.nu b e).same (keep hc (by decide))⟩
  · by_cases e : j = i
    · subst e; rw [up_same]; exact he
    · rw [up_other E _ e]
      have hel := h.el j hj
      obtain ⟨ao, n, c, hr⟩ := hel.rs
      have hwz : ∀ {cs : Array Value} {t : TypeId} {k : Nat}, Blk W k cs t → t ≠ WT → k ≠ wz := fun {cs t k} hbk ht e2 => by
        rw [e2] at hbk
        have h1 := h.wb
        unfold Blk at h1 hbk
        rw [h1] at hbk
        injection Option.some.inj hbk with e1 e3
        exact ht e3.symm
      refine hel.stay (f := E i) hT hkv (hwz hr.blk (by decide)) (fun hq ht => ?_) (fun zp hz ht => ?_)
      · rcases hel.set with ⟨h1, _⟩ | ⟨zp, S, _, h2, _⟩
        · exact hq h1
        · obtain ⟨es, clock, hm⟩ := h2.map
          have ht2 : (E j).b = wz := ht
          rw [ht2] at hm
          exact map_noBlk hm h.wb
      · rcases hel.set with ⟨h1, _⟩ | ⟨zp', S, h1, h2, _⟩
        · rw [h1] at hz; cases hz
        · rw [h1] at hz
          cases hz
          exact hwz h2.blk (by decide) ht
  · by_cases e : j = i
    · subst e; rw [up_same]; exact ⟨by omega, fun hq => by have := hb hq; omega⟩
    · rw [up_other E _ e]; exact h.low j hj
  · by_cases e1 : j = i
    · by_cases e2 : k = i
      · exact absurd (e1.trans e2.symm) hne
      · subst e1
        rw [up_same, up_other E _ e2]
        exact ⟨fun e => by have := hzl k hk; omega, fun h1 h2 e => by have := hbl k hk h2; have := hb h1; omega⟩
    · by_cases e2 : k = i
      · subst e2
        rw [up_same, up_other E _ e1]
        exact ⟨fun e => by have := hzl j hj; omega, fun h1 h2 e => by have := hbl j hj h1; have := hb h2; omega⟩
      · rw [up_other E _ e1, up_other E _ e2]
        exact h.ap j k hj hk hne
end
end Go.Proofs.Ytnloglecfbhpcaa
