/- ShaScript: four Hashers in one block, four lists in another. -/
import Derived.Test.YtbohbkjkcpncfaaDoorSW1
namespace Go.Proofs.YtbohbkjkcpncfaaDoor
set_option linter.unusedVariables false
set_option linter.unusedSimpArgs false
open Go.RowKit

/-- The cells of a Hasher that has taken these bytes. -/
def IsH (l : List Value) (bs : List UInt8) : Prop := ∃ s : S8, l = hlist (st8 s) (decide (64 ≤ bs.length)) (wait bs) bs.length ∧ (st8 s).length = 8 ∧ (wait bs).length = 64 ∧ (∀ v ∈ st8 s, v.oneCell' = true) ∧ (64 ≤ bs.length → s = chain begin8 (bs.length / 64) bs)
theorem IsH.len {l : List Value} {bs : List UInt8} (h : IsH l bs) : l.length = 74 := by
  obtain ⟨s, rfl, h1, h2, _, _⟩ := h
  exact HB.len h1 h2
theorem IsH.one {l : List Value} {bs : List UInt8} (h : IsH l bs) : ∀ v ∈ l, v.oneCell' = true := by
  obtain ⟨s, rfl, _, _, h3, _⟩ := h
  exact hlist_one h3 _ _ _
theorem HOf.is {w : World} {z : Nat} {t : TypeId} {pre post : List Value} {bs : List UInt8} (h : HOf w z t pre post bs) : ∃ l, IsH l bs ∧ Blk w z (pre ++ (l ++ post)).toArray t := by
  obtain ⟨s, hB, hs⟩ := h
  exact ⟨_, ⟨s, rfl, hB.sl, hB.wl, hB.one, hs⟩, hB.blk⟩
theorem IsH.hof {w : World} {z : Nat} {t : TypeId} {pre l post : List Value} {bs : List UInt8} (h : IsH l bs) (hB : Blk w z (pre ++ (l ++ post)).toArray t) : HOf w z t pre post bs := by
  obtain ⟨s, rfl, h1, h2, h3, h4⟩ := h
  exact ⟨s, ⟨hB, h1, h2, h3⟩, h4⟩
theorem IsH.zero : IsH zeroH.toList [] := ⟨zS, rfl, rfl, rfl, st8_one _, fun h => by simp at h⟩
theorem flat_len : ∀ (ls : List (List Value)), (∀ l ∈ ls, l.length = 74) → ls.flatten.length = ls.length * 74
  | [], _ => rfl
  | l :: r, h => by
    rw [List.flatten_cons, List.length_append, h l (by simp), flat_len r (fun x hx => h x (by simp [hx])), List.length_cons]; omega
theorem flat_at (ls : List (List Value)) (i : Nat) (hi : i < ls.length) : ls.flatten = (ls.take i).flatten ++ (ls[i] ++ (ls.drop (i + 1)).flatten) := by
  conv => lhs; rw [← List.take_append_drop i ls]
  rw [List.drop_eq_getElem_cons hi, List.flatten_append, List.flatten_cons]
theorem flat_set (ls : List (List Value)) (i : Nat) (hi : i < ls.length) (l : List Value) : (ls.set i l).flatten = (ls.take i).flatten ++ (l ++ (ls.drop (i + 1)).flatten) := by
  rw [flat_at (ls.set i l) i (by rw [List.length_set]; exact hi), List.getElem_set_self, List.take_set_of_le (Nat.le_refl i), List.drop_set_of_lt (by omega)]
/-- Four Hashers that have taken these bytes, in one block. -/
structure Hs (w : World) (z : Nat) (ls : List (List Value)) (ds : List (List UInt8)) : Prop where
  blk : Blk w z ls.flatten.toArray 46
  ll : ls.length = 4
  dl : ds.length = 4
  is : ∀ i (h1 : i < ls.length), IsH ls[i] (ds.getD i [])
def HsOf (w : World) (z : Nat) (ds : List (List UInt8)) : Prop := ∃ ls, Hs w z ls ds
theorem getD_set {α : Type} (l : List α) (i j : Nat) (x d : α) (hi : i < l.length) : (l.set i x).getD j d = if j = i then x else l.getD j d := by
  rw [List.getD_eq_getElem?_getD, List.getElem?_set]
  by_cases h : j = i
  · subst h; simp [hi]
  · rw [if_neg (fun e => h e.symm), if_neg h, List.getD_eq_getElem?_getD]
theorem Hs.all74 {w : World} {z : Nat} {ls : List (List Value)} {ds : List (List UInt8)} (h : Hs w z ls ds) : ∀ l ∈ ls, l.length = 74 := by
  intro l hl
  obtain ⟨i, hi, rfl⟩ := List.mem_iff_getElem.1 hl
  exact (h.is i hi).len
theorem Hs.pre {w : World} {z : Nat} {ls : List (List Value)} {ds : List (List UInt8)} (h : Hs w z ls ds) (i : Nat) (hi : i < 4) : ((ls.take i).flatten).length = i * 74 := by
  rw [flat_len _ (fun l hl => h.all74 l (List.mem_of_mem_take hl)), List.length_take, h.ll]; congr 1; omega
theorem Hs.put {w w' : World} {z : Nat} {ls : List (List Value)} {ds : List (List UInt8)} (h : Hs w z ls ds) (i : Nat) (hi : i < 4) (l : List Value) (bs : List UInt8) (hl : IsH l bs) (hB : Blk w' z ((ls.take i).flatten ++ (l ++ (ls.drop (i + 1)).flatten)).toArray 46) : Hs w' z (ls.set i l) (ds.set i bs) := by
  refine ⟨by rw [flat_set ls i (by rw [h.ll]; exact hi)]; exact hB, by rw [List.length_set, h.ll], by rw [List.length_set, h.dl], fun j hj => ?_⟩
  rw [List.length_set] at hj
  rw [getD_set ds i j bs [] (by rw [h.dl]; exact hi), List.getElem_set]
  by_cases e : i = j
  · subst e; rw [if_pos rfl, if_pos rfl]; exact hl
  · rw [if_neg e, if_neg (fun x => e x.symm)]; exact h.is j hj
/-- One of them, where it lies. -/
theorem HsOf.at {w : World} {z : Nat} {ds : List (List UInt8)} (h : HsOf w z ds) (i : Nat) (hi : i < 4) : ∃ pre post, pre.length = i * 74 ∧ HOf w z 46 pre post (ds.getD i []) ∧ ∀ w' bs', HOf w' z 46 pre post bs' → HsOf w' z (ds.set i bs') := by
  obtain ⟨ls, h⟩ := h
  have hil : i < ls.length := by rw [h.ll]; exact hi
  refine ⟨(ls.take i).flatten, (ls.drop (i + 1)).flatten, h.pre i hi, (h.is i hil).hof (by rw [← flat_at ls i hil]; exact h.blk), fun w' bs' h' => ?_⟩
  obtain ⟨l, hl, hB⟩ := h'.is
  exact ⟨_, h.put i hi l bs' hl hB⟩
/-- Its cells. -/
theorem HsOf.cells {w : World} {z : Nat} {ds : List (List UInt8)} (h : HsOf w z ds) (i : Nat) (hi : i < 4) : ∃ l, IsH l (ds.getD i []) ∧ w.rangeAt z (i * 74) l := by
  obtain ⟨ls, h⟩ := h
  have hil : i < ls.length := by rw [h.ll]; exact hi
  refine ⟨ls[i], h.is i hil, ?_⟩
  have hb := h.blk
  rw [flat_at ls i hil] at hb
  have := blk_mid hb
  rwa [h.pre i hi] at this
/-- Another's cells are laid there. -/
theorem HsOf.lay {w : World} {z : Nat} {ds : List (List UInt8)} (h : HsOf w z ds) (i : Nat) (hi : i < 4) (l : List Value) (bs : List UInt8) (hl : IsH l bs) : w.there z (i * 74) l.toArray.size ∧ HsOf (w.setCells z (i * 74) l) z (ds.set i bs) ∧ w.grownBy (w.setCells z (i * 74) l) (some z) := by
  obtain ⟨ls, h⟩ := h
  have hil : i < ls.length := by rw [h.ll]; exact hi
  have hb := h.blk
  have hfl := flat_len ls h.all74
  have hth := there_mid hb (i * 74) 74 (by rw [hfl, h.ll]; omega)
  rw [flat_at ls i hil] at hb
  have := setCells_mid l w _ _ _ hb (by rw [hl.len, (h.is i hil).len])
  rw [h.pre i hi] at this
  refine ⟨?_, ⟨_, h.put i hi l bs hl this.1⟩, this.2⟩
  have e : l.toArray.size = 74 := by simpa using hl.len
  rw [e]; exact hth
theorem HsOf.grown {w w' : World} {z : Nat} {ds : List (List UInt8)} {row : Option Nat} (h : HsOf w z ds) (hg : w.grownBy w' row) (hne : some z ≠ row) : HsOf w' z ds := by
  obtain ⟨ls, h⟩ := h
  exact ⟨ls, h.blk.grown hg hne, h.ll, h.dl, h.is⟩
theorem HsOf.below {w w' : World} {z : Nat} {ds : List (List UInt8)} (h : HsOf w z ds) (hb : Below w.heap.size w w') : HsOf w' z ds := by
  obtain ⟨ls, h⟩ := h
  exact ⟨ls, h.blk.below hb h.blk.lt, h.ll, h.dl, h.is⟩
theorem HsOf.lt {w : World} {z : Nat} {ds : List (List UInt8)} (h : HsOf w z ds) : z < w.heap.size := by
  obtain ⟨ls, h⟩ := h
  exact h.blk.lt
/-- The four lists: read alone; their rows lie from B up to N. -/
structure Tk (w : World) (z B N : Nat) (vs : List Value) (ds : List (List UInt8)) : Prop where
  blk : Blk w z vs.toArray 47
  vl : vs.length = 4
  rd : ∀ i, i < 4 → RdA w (vs.getD i undef) (ds.getD i [])
  lo : ∀ i, i < 4 → ∀ b o l c, vs.getD i undef = .slice (some ⟨b, o, none⟩) l c → 0 < c → B ≤ b ∧ b < N
theorem Tk.below {w w' : World} {z B N : Nat} {vs : List Value} {ds : List (List UInt8)} (h : Tk w z B N vs ds) (hb : Below w.heap.size w w') : Tk w' z B N vs ds :=
  ⟨h.blk.below hb h.blk.lt, h.vl, fun i hi => (h.rd i hi).below hb, h.lo⟩
theorem Tk.up {w : World} {z B N N' : Nat} {vs : List Value} {ds : List (List UInt8)} (h : Tk w z B N vs ds) (hN : N ≤ N') : Tk w z B N' vs ds :=
  ⟨h.blk, h.vl, h.rd, fun i hi b o l c e hc => by have := h.lo i hi b o l c e hc; omega⟩
theorem Tk.grown {w w' : World} {z B N g : Nat} {vs : List Value} {ds : List (List UInt8)} (h : Tk w z B N vs ds) (hg : w.grownBy w' (some g)) (hz : z ≠ g) (hr : g < B ∨ N ≤ g) : Tk w' z B N vs ds :=
  ⟨h.blk.grown hg (fun e => hz (Option.some.inj e)), h.vl, fun i hi => (h.rd i hi).grown hg (fun b o l c e hc => by have := h.lo i hi b o l c e hc; omega), h.lo⟩
theorem Tk.at {w : World} {z B N : Nat} {vs : List Value} {ds : List (List UInt8)} (h : Tk w z B N vs ds) (i : Nat) (hi : i < 4) : ∃ ao c, w.cell? ⟨z, i, none⟩ = some (.slice ao (ds.getD i []).length c) ∧ RdA w (.slice ao (ds.getD i []).length c) (ds.getD i []) ∧ vs.getD i undef = .slice ao (ds.getD i []).length c := by
  obtain ⟨ao, c, e, _⟩ := (h.rd i hi).slice
  have hil : i < vs.length := by rw [h.vl]; exact hi
  refine ⟨ao, c, ?_, by rw [← e]; exact h.rd i hi, e⟩
  rw [h.blk.cell, List.getElem?_toArray, List.getElem?_eq_getElem hil, ← e, List.getD_eq_getElem?_getD, List.getElem?_eq_getElem hil]; rfl
theorem Tk.put {w : World} {z B N : Nat} {vs : List Value} {ds : List (List UInt8)} (h : Tk w z B N vs ds) (hdl : ds.length = 4) (i : Nat) (hi : i < 4) (v : Value) (bs : List UInt8) (hzB : z < B) (hv : RdA w v bs) (hlo : ∀ b o l c, v = .slice (some ⟨b, o, none⟩) l c → 0 < c → B ≤ b ∧ b < N) : Tk (w.setCell ⟨z, i, none⟩ v) z B N (vs.set i v) (ds.set i bs) ∧ w.grownBy (w.setCell ⟨z, i, none⟩ v) (some z) := by
  have hg : w.grownBy (w.setCell ⟨z, i, none⟩ v) (some z) := grownBy_set _ _ _ _
  refine ⟨⟨?_, by rw [List.length_set, h.vl], fun j hj => ?_, fun j hj b o l c e hc => ?_⟩, hg⟩
  · have := h.blk.set i v
    rwa [List.setIfInBounds_toArray] at this
  · rw [getD_set vs i j v undef (by rw [h.vl]; exact hi), getD_set ds i j bs [] (by rw [hdl]; exact hi)]
    by_cases e : j = i
    · rw [if_pos e, if_pos e]; exact hv.grown hg (fun b o l c e hc => by have := hlo b o l c e hc; omega)
    · rw [if_neg e, if_neg e]; exact (h.rd j hj).grown hg (fun b o l c e hc => by have := h.lo j hj b o l c e hc; omega)
  · rw [getD_set vs i j v undef (by rw [h.vl]; exact hi)] at e
    by_cases e2 : j = i
    · rw [if_pos e2] at e; exact hlo b o l c e hc
    · rw [if_neg e2] at e; exact h.lo j hj b o l c e hc
/-- Both, and who may write where. -/
structure Sc (w wr : World) (zh zt B N : Nat) (hs ts : List (List UInt8)) : Prop where
  h : HsOf wr zh hs
  t : ∃ vs, Tk wr zt B N vs ts
  dl : ts.length = 4
  bel : Below w.heap.size w wr
  z0 : w.heap.size ≤ zh
  z1 : zh < zt
  z2 : zt < B
  hB : B ≤ N
  hN : N ≤ wr.heap.size
theorem Sc.below {w wr w' : World} {zh zt B N : Nat} {hs ts : List (List UInt8)} (p : Sc w wr zh zt B N hs ts) (hb : Below wr.heap.size wr w') : Sc w w' zh zt B N hs ts :=
  ⟨p.h.below hb, p.t.elim fun vs h => ⟨vs, h.below hb⟩, p.dl, p.bel.trans (hb.mono p.bel.size), p.z0, p.z1, p.z2, p.hB, Nat.le_trans p.hN hb.size⟩
theorem Sc.up {w wr : World} {zh zt B N N' : Nat} {hs ts : List (List UInt8)} (p : Sc w wr zh zt B N hs ts) (h1 : N ≤ N') (h2 : N' ≤ wr.heap.size) : Sc w wr zh zt B N' hs ts :=
  ⟨p.h, p.t.elim fun vs h => ⟨vs, h.up h1⟩, p.dl, p.bel, p.z0, p.z1, p.z2, Nat.le_trans p.hB h1, h2⟩
/-- A row that is younger is written. -/
theorem Sc.fresh {w wr w' : World} {zh zt B N g : Nat} {hs ts : List (List UInt8)} (p : Sc w wr zh zt B N hs ts) (hg : wr.grownBy w' (some g)) (hN : N ≤ g) : Sc w w' zh zt B N hs ts := by
  have z0 := p.z0; have z1 := p.z1; have z2 := p.z2; have hB := p.hB
  exact ⟨p.h.grown hg (fun e => by have := Option.some.inj e; omega), p.t.elim fun vs h => ⟨vs, h.grown hg (by omega) (.inr hN)⟩, p.dl, p.bel.trans (below_grownBy hg (by omega) p.bel.size), p.z0, p.z1, p.z2, p.hB, Nat.le_trans p.hN hg.size⟩
/-- A row of the round's own grows. -/
theorem Sc.row {w wr w' : World} {zh zt B N : Nat} {hs ts : List (List UInt8)} {va : Value} {xs : List UInt8} (p : Sc w wr zh zt B N hs ts) (ho : OwnsB wr N va xs) (hg : wr.grownBy w' va.ownBlock) : Sc w w' zh zt B N hs ts := by
  cases e : va.ownBlock with
  | none => rw [e] at hg; exact p.below ⟨hg.os, hg.tape, hg.output, hg.size, fun i hi => hg.block i hi (by simp)⟩
  | some g => rw [e] at hg; exact p.fresh hg (owns_lt ho g e).1
/-- A Hasher is written. -/
theorem Sc.write {w wr w' : World} {zh zt B N : Nat} {hs ts hs' : List (List UInt8)} (p : Sc w wr zh zt B N hs ts) (hh : HsOf w' zh hs') (hg : wr.grownBy w' (some zh)) : Sc w w' zh zt B N hs' ts := by
  have z0 := p.z0; have z1 := p.z1; have z2 := p.z2
  exact ⟨hh, p.t.elim fun vs h => ⟨vs, h.grown hg (by omega) (.inl (by omega))⟩, p.dl, p.bel.trans (below_grownBy hg z0 p.bel.size), p.z0, p.z1, p.z2, p.hB, Nat.le_trans p.hN hg.size⟩
/-- A list is laid. -/
theorem Sc.put {w wr : World} {zh zt B N : Nat} {hs ts : List (List UInt8)} (p : Sc w wr zh zt B N hs ts) (i : Nat) (hi : i < 4) (v : Value) (bs : List UInt8) (hv : RdA wr v bs) (hlo : ∀ b o l c, v = .slice (some ⟨b, o, none⟩) l c → 0 < c → B ≤ b ∧ b < N) : Sc w (wr.setCell ⟨zt, i, none⟩ v) zh zt B N hs (ts.set i bs) := by
  have z0 := p.z0; have z1 := p.z1; have z2 := p.z2
  obtain ⟨vs, h⟩ := p.t
  obtain ⟨h1, hg⟩ := h.put p.dl i hi v bs z2 hv hlo
  exact ⟨p.h.grown hg (fun e => by have := Option.some.inj e; omega), ⟨_, h1⟩, by rw [List.length_set, p.dl], p.bel.trans (below_grownBy hg (by omega) p.bel.size), p.z0, p.z1, p.z2, p.hB, Nat.le_trans p.hN hg.size⟩
theorem Sc.took {w wr : World} {zh zt B N : Nat} {hs ts : List (List UInt8)} (p : Sc w wr zh zt B N hs ts) (i : Nat) (hi : i < 4) : ∃ ao c, wr.cell? ⟨zt, i, none⟩ = some (.slice ao (ts.getD i []).length c) ∧ wr.frozen? ⟨zt, i, none⟩ = false ∧ RdA wr (.slice ao (ts.getD i []).length c) (ts.getD i []) ∧ ∀ b o l c', .slice ao (ts.getD i []).length c = Value.slice (some ⟨b, o, none⟩) l c' → 0 < c' → B ≤ b ∧ b < N := by
  obtain ⟨vs, h⟩ := p.t
  obtain ⟨ao, c, h1, h2, h3⟩ := h.at i hi
  exact ⟨ao, c, h1, h.blk.frozen i, h2, fun b o l c' e hc => h.lo i hi b o l c' (h3.trans e) hc⟩
def four0 : List (List UInt8) := [[], [], [], []]
def zero4 : Array Value := (zeroH.toList ++ (zeroH.toList ++ (zeroH.toList ++ zeroH.toList))).toArray
def nil4 : Array Value := #[.slice none 0 0, .slice none 0 0, .slice none 0 0, .slice none 0 0]
theorem zero_four (W : World) : (zeroValue 46).run Tryd.prog W = .ok (.agg zero4) W := by kernel_rfl
theorem zero_nil4 (W : World) : (zeroValue 47).run Tryd.prog W = .ok (.agg nil4) W := by kernel_rfl
theorem Sc.start (w : World) : Sc w ((w.alloc (.cells zero4 46)).alloc (.cells nil4 47)) w.heap.size (w.heap.size + 1) (w.heap.size + 2) (w.heap.size + 2) four0 four0 := by
  refine ⟨⟨[zeroH.toList, zeroH.toList, zeroH.toList, zeroH.toList], ?_, rfl, rfl, fun i hi => ?_⟩, ⟨nil4.toList, blk_made1 w _ _ _ _, rfl, fun i hi => ?_, fun i hi b o l c e hc => ?_⟩, rfl, ((Below.refl _ _).alloc (Nat.le_refl _) _).alloc (by simp) _, Nat.le_refl _, by omega, by omega, Nat.le_refl _, by simp⟩
  · have : ([zeroH.toList, zeroH.toList, zeroH.toList, zeroH.toList] : List (List Value)).flatten.toArray = zero4 := by unfold zero4; simp
    rw [this]; exact (Blk.made w _ _).alloc _
  · rcases i with _ | _ | _ | _ | i
    · exact IsH.zero
    · exact IsH.zero
    · exact IsH.zero
    · exact IsH.zero
    · simp at hi; omega
  · rcases i with _ | _ | _ | _ | i
    · exact .inl (Rd_none _)
    · exact .inl (Rd_none _)
    · exact .inl (Rd_none _)
    · exact .inl (Rd_none _)
    · omega
  · rcases i with _ | _ | _ | _ | i
    · cases e
    · cases e
    · cases e
    · cases e
    · omega
/-- A step of the script. -/
structure StepR where
  dO : Int
  aT : Int
  fR : Int
  dat : List UInt8
/-- A row of steps. -/
def Scr (w : World) (ap : Option Addr) (ss : List StepR) : Prop := ∀ i (h : i < ss.length), ∃ b o v, ap = some ⟨b, o, none⟩ ∧ w.rangeAt b (o + i * 4) [.int .i64 ss[i].dO, .int .i64 ss[i].aT, .int .i64 ss[i].fR, v] ∧ RdA w v ss[i].dat
theorem rangeAt_below {w w' : World} {b o : Nat} {l : List Value} (h : w.rangeAt b o l) (hb : Below w.heap.size w w') : w'.rangeAt b o l := fun j v hj => by
  have := h j v hj
  rw [hb.cell (block_lt_of_cell this)]; exact this
theorem Scr.part {w : World} {ap : Option Addr} {ss : List StepR} (h : Scr w ap ss) (i : Nat) (hi : i < ss.length) : ∃ b o ao c, ap = some ⟨b, o, none⟩ ∧ ss[i].dat.length ≤ 9223372036854775807 ∧ (∀ b' o', ao = some ⟨b', o', none⟩ → 0 < ss[i].dat.length → b' < w.heap.size) ∧
    ∀ W, Below w.heap.size w W → W.rangeAt b (o + i * 4) [.int .i64 ss[i].dO, .int .i64 ss[i].aT, .int .i64 ss[i].fR, .slice ao ss[i].dat.length c] ∧ RdA W (.slice ao ss[i].dat.length c) ss[i].dat := by
  obtain ⟨b, o, v, e, hc, hr⟩ := h i hi
  obtain ⟨ao, c, rfl, hl⟩ := hr.slice
  refine ⟨b, o, ao, c, e, hl, fun b' o' e2 hp => ?_, fun W hW => ⟨rangeAt_below hc hW, hr.below hW⟩⟩
  subst e2
  exact hr.block hp b' o' _ _ rfl
end Go.Proofs.YtbohbkjkcpncfaaDoor
