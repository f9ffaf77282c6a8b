/- Find: the one key whose digits begin so. -/
import Derived.Test.YtnloglecfbhpcaaKN15
namespace Go.Proofs.Ytnloglecfbhpcaa
set_option linter.unusedVariables false
set_option linter.unusedSimpArgs false
open Go.RowKit Go.Shelf
set_option maxRecDepth 100000
attribute [local go_sem] Oper.semAt_some

def zK : List UInt8 := List.replicate 32 0
theorem store_runK {op : Oper} {ev : Operand → Value} {w : World} (x y : Operand) (ho : op.op = .store 38 x y) (z : Nat) (hx : ev x = .pointer (some ⟨z, 0, none⟩)) (old bs : List UInt8) (hk : KeyAt w z old) (hl : bs.length = 32) (hy : ev y = keyV bs) :
    (execOp ev op).run Try.prog w = .ok .skip (w.setCells z 0 (bs.map u8c).toArray.toList) ∧ KeyAt (w.setCells z 0 (bs.map u8c).toArray.toList) z bs ∧ w.grownBy (w.setCells z 0 (bs.map u8c).toArray.toList) (some z) := by
  have hs : ((bs.map u8c).toArray).size = ((old.map u8c).toArray).size := by simp [hl, hk.2]
  have h32 : ((old.map u8c).toArray).size = 32 := by simp [hk.2]
  obtain ⟨k1, k2⟩ := setCells_blk hk.1 (bs.map u8c).toArray hs
  refine ⟨?_, ⟨k1, hl⟩, k2⟩
  have hst := run_storeAt_mid (P := Try.prog) w z 0 38 (bs.map u8c).toArray (thereBlk hk.1 _ (by rw [hs]; exact Nat.le_refl _)) (by rw [hs, h32]; exact infoKey) (all_oneCell_toArray (u8c_one bs))
  simp only [execOp, ho, hx, hy, keyV, Sem.run_bind, hst, Result.andThen_ok, Sem.run_pure]
theorem wpListIn_store_keyK {F : Fence} {n : Nat} {ops : Array Oper} {rest : List Oper} {op : Oper} {a : Act} {w : World} {Q : Exit → Act → World → Prop} (hgd : op.guard = none) (x y : Operand) (ho : op.op = .store 38 x y) (z : Nat) (hx : a.eval x = .pointer (some ⟨z, 0, none⟩)) (old bs : List UInt8) (hk : KeyAt w z old) (hl : bs.length = 32) (hy : a.eval y = keyV bs)
    (h : ∀ w', Hid (KeyAt w' z bs) → Hid (w.grownBy w' (some z)) → wpListIn F n Try.prog ops Q rest (a.put op.dst undef) w') : wpListIn F n Try.prog ops Q (op :: rest) a w := by
  obtain ⟨h1, h2, h3⟩ := store_runK x y ho z hx old bs hk hl hy
  refine wpListIn_plain hgd fun K' hK' => ?_
  unfold Oper.wpIn
  refine ⟨by simp [Oper.about, ho], ?_⟩
  rw [Oper.semAt_plain F _ _ (by rw [ho]; intro c hc'; cases hc'), h1]
  exact hK' _ _ (h _ (hide h2) (hide h3))
theorem wpList_store_keyK {ops : Array Oper} {rest : List Oper} {op : Oper} {a : Act} {w : World} {Q : Exit → Act → World → Prop} (hgd : Region.wanted op (yielded ops a.tmps) = true) (x y : Operand) (ho : op.op = .store 38 x y) (z : Nat) (hx : a.eval x = .pointer (some ⟨z, 0, none⟩)) (old bs : List UInt8) (hk : KeyAt w z old) (hl : bs.length = 32) (hy : a.eval y = keyV bs)
    (h : ∀ w', Hid (KeyAt w' z bs) → Hid (w.grownBy w' (some z)) → wpList Try.prog ops Q rest (a.put op.dst undef) w') : wpList Try.prog ops Q (op :: rest) a w := by
  obtain ⟨h1, h2, h3⟩ := store_runK x y ho z hx old bs hk hl hy
  unfold wpList
  rw [if_pos hgd]
  refine .inl ?_
  unfold Oper.wp
  rw [h1]
  exact h _ (hide h2) (hide h3)
/-- Of the keys gone through: none begins so, or one alone. -/
def FiO (p : List UInt8) (pre : List K32) : Option (List UInt8) → Prop
  | none => ∀ x ∈ pre, begK x.1 p = false
  | some k => (∃ x ∈ pre, x.1 = k ∧ begK x.1 p = true) ∧ ∀ x ∈ pre, begK x.1 p = true → x.1 = k
theorem FiO.no {p : List UInt8} {pre : List K32} {fo : Option (List UInt8)} (h : FiO p pre fo) (x : K32) (hx : begK x.1 p = false) : FiO p (pre ++ [x]) fo := by
  cases fo with
  | none => exact fun y hy => (List.mem_append.1 hy).elim (h y) (fun e => by rw [List.mem_singleton.1 e]; exact hx)
  | some k =>
    obtain ⟨⟨y, h1, h2⟩, h3⟩ := h
    exact ⟨⟨y, List.mem_append.2 (.inl h1), h2⟩, fun y hy hb => (List.mem_append.1 hy).elim (fun e => h3 y e hb) (fun e => by rw [List.mem_singleton.1 e, hx] at hb; cases hb)⟩
theorem FiO.yes {p : List UInt8} {pre : List K32} (h : FiO p pre none) (x : K32) (hx : begK x.1 p = true) : FiO p (pre ++ [x]) (some x.1) :=
  ⟨⟨x, List.mem_append.2 (.inr (List.mem_singleton.2 rfl)), rfl, hx⟩, fun y hy hb => (List.mem_append.1 hy).elim (fun e => by rw [h y e] at hb; cases hb) (fun e => by rw [List.mem_singleton.1 e])⟩
def TwoB (ks : List (List UInt8)) (p : List UInt8) : Prop := ∃ x ∈ ks, ∃ y ∈ ks, x ≠ y ∧ begK x p = true ∧ begK y p = true
/-- Between two rounds of Find. -/
structure FiS (w : World) (N no : Nat) (p : List UInt8) (fo : Option (List UInt8)) (W : World) : Prop where
  sb : Blk W N #[.string ⟨p.toArray⟩] 9
  rk : KeyAt W (N + 1) zK
  re : Blk W (N + 2) #[.int .i64 0] 59
  ob : KeyAt W no (fo.getD zK)
  fb : Blk W (no + 1) #[.bool fo.isSome] 4
  bel : Below N w W
  ne : N + 3 ≤ no
structure FiT (w : World) (N : Nat) (m : Int) (k : List UInt8) (W : World) : Prop where
  rk : KeyAt W (N + 1) k
  re : Blk W (N + 2) #[.int .i64 m] 59
  bel : Below N w W
theorem FiS.below {w W W' : World} {N no : Nat} {p : List UInt8} {fo : Option (List UInt8)} (h : FiS w N no p fo W) (hb : Below W.heap.size W W') : FiS w N no p fo W' :=
  ⟨h.sb.below hb h.sb.lt, h.rk.below hb, h.re.below hb h.re.lt, h.ob.below hb, h.fb.below hb h.fb.lt, h.bel.trans (hb.mono (by have := h.sb.lt; omega)), h.ne⟩
theorem below_kept {w A B : World} {N C : Nat} {row : Option Nat} (h : Below N w A) (hN : N ≤ A.heap.size) (hg : A.grownBy B row) (hr : ∀ r, row = some r → C ≤ r) (hC : N ≤ C) : Below N w B :=
  ⟨hg.os.trans h.os, hg.tape.trans h.tape, hg.output.trans h.output, Nat.le_trans h.size hg.size, fun i hi => (hg.block i (by omega) (fun e => by have := hr i e.symm; omega)).trans (h.block i hi)⟩
theorem FiS.ownFrom {w : World} {N no C : Nat} {p : List UInt8} (hC : N ≤ C) : OwnFrom C (fun pre W => ∃ fo, FiS w N no p fo W ∧ FiO p pre fo) :=
  fun s A C row ⟨fo, h, h0⟩ hg hr => by
    have hr2 : ∀ r, row = some r → ∃ o : Obj, A.heap[r]? = some o ∧ o.isCells = false := fun r e => (hr r e).2
    exact ⟨fo, ⟨h.sb.keptRowK hg hr2, ⟨h.rk.1.keptRowK hg hr2, h.rk.2⟩, h.re.keptRowK hg hr2, ⟨h.ob.1.keptRowK hg hr2, h.ob.2⟩, h.fb.keptRowK hg hr2, below_kept h.bel (by have := h.sb.lt; omega) hg (fun r e => (hr r e).1) hC, h.ne⟩, h0⟩
theorem FiT.ownFrom {w : World} {N C : Nat} {m : Int} {k : List UInt8} {p : List UInt8} {ks : List (List UInt8)} (c : Code) (hC : N ≤ C) : OwnFrom C (fun (_ : List K32) W => c = .ret ∧ FiT w N m k W ∧ TwoB ks p) :=
  fun s A C row ⟨hc, h, h0⟩ hg hr => by
    have hr2 : ∀ r, row = some r → ∃ o : Obj, A.heap[r]? = some o ∧ o.isCells = false := fun r e => (hr r e).2
    exact ⟨hc, ⟨⟨h.rk.1.keptRowK hg hr2, h.rk.2⟩, h.re.keptRowK hg hr2, below_kept h.bel (by have := h.re.lt; omega) hg (fun r e => (hr r e).1) hC⟩, h0⟩
theorem load_errno {w : World} {b o : Nat} {v : Value} (h : w.cell? ⟨b, o, none⟩ = some v) : (loadVar 59 ⟨b, o, none⟩).run Try.prog w = .ok v w := by
  have hu := Try.underlying59
  simp [go_sem, h, hu]
theorem results_cc {fn : Func} {t u : Tmp} {ty ty' : TypeId} (h : fn.results = #[.cell t ty, .cell u ty']) (tmps : Array Value) (w : World) (a b : Addr) (ha : tmps.getD t undef = .pointer (some a)) (hb : tmps.getD u undef = .pointer (some b)) (v x : Value) (hl : (loadVar ty a).run Try.prog w = .ok v w) (hx : (loadVar ty' b).run Try.prog w = .ok x w) :
    (results fn tmps).run Try.prog w = .ok (.tuple #[v, x]) w := by
  have ha' : tmps[t]?.getD undef = .pointer (some a) := by simpa using ha
  have hb' : tmps[u]?.getD undef = .pointer (some b) := by simpa using hb
  simp only [results, h]
  simp [Sem.run_bind, Result.andThen, ha', hb', asAddr, hl, hx]
theorem leaveCC {fn : Func} {t u : Tmp} {R : Ending → World → Prop} (hres : fn.results = #[.cell t 38, .cell u 59]) {tmps : Array Value} {w W : World} {N D : Nat} {k : List UInt8} {m : Int} (e1 : W.heap[D]? = some (.deferred (some []))) (hv : tmps.getD t undef = .pointer (some ⟨N + 1, 0, none⟩)) (hx : tmps.getD u undef = .pointer (some ⟨N + 2, 0, none⟩)) (hT : FiT w N m k W) (hR : R (.returned (.tuple #[keyV k, .int .i64 m])) (W.putObj D (.deferred none))) :
    bodyPostM Fence.wide 5 Try.prog fn R .ret { tmps := tmps, defers := [{ target := .collected D, args := #[] }] } W := by
  refine ⟨by simp, .inl ⟨_, _, rfl, run_takeDeferred e1, ?_⟩⟩
  have n1 : N + 1 ≠ D := fun e => by
    have h := hT.rk.1
    unfold Blk at h
    rw [e, e1] at h
    cases h
  have n2 : N + 2 ≠ D := fun e => by
    have h := hT.re
    unfold Blk at h
    rw [e, e1] at h
    cases h
  have h1 : Blk (W.putObj D (.deferred none)) (N + 1) (k.map u8c).toArray 38 := (World.putObj_heap_other n1).trans hT.rk.1
  have h2 : Blk (W.putObj D (.deferred none)) (N + 2) #[.int .i64 m] 59 := (World.putObj_heap_other n2).trans hT.re
  refine ⟨_, results_cc hres _ _ ⟨N + 1, 0, none⟩ ⟨N + 2, 0, none⟩ hv hx (keyV k) (.int .i64 m) (loadBlkT h1 38 _ Try.underlying38 rfl 32 infoKey (by simp [hT.rk.2])) (load_errno (h2.cell 0)), hR⟩
/-- What Find leaves where some key begins so. -/
def FindC (w : World) (S : List (List UInt8)) (p : List UInt8) (e : Ending) (w' : World) : Prop := ∃ (k : List UInt8) (m : Int), e = .returned (.tuple #[keyV k, .int .i64 m]) ∧ k.length = 32 ∧ Below w.heap.size w w' ∧ ((m = 0 ∧ ∀ x ∈ S, x.length = 32 → begK x p = true → x = k) ∨ (m = 32 ∧ ∃ x ∈ S, ∃ y ∈ S, x.length = 32 ∧ y.length = 32 ∧ x ≠ y ∧ begK x p = true ∧ begK y p = true))
set_option maxHeartbeats 4000000 in
theorem find_any (w : World) (z b : Nat) (S : List (List UInt8)) (p : List UInt8) (hp : p.length ≤ 64) (hpd : allDig p = true) (hex : ∃ x ∈ S, x.length = 32 ∧ begK x p = true) (hA : SetAt w z b S) (hn : S.length ≤ 4398046510976) : Calls Try.prog 21 #[.pointer (some ⟨z, 0, none⟩), .string ⟨p.toArray⟩] w (FindC w S p) := by
  have hzk := zero_key
  obtain ⟨N, hN⟩ : ∃ N, N = w.heap.size := ⟨_, rfl⟩
  have HW : Hid (∀ W, W = ((w.alloc (.cells #[.string ⟨p.toArray⟩] 9)).alloc (.cells keyZ 38)).alloc (.cells #[.int .i64 0] 59) → (Blk W N #[.string ⟨p.toArray⟩] 9 ∧ KeyAt W (N + 1) zK ∧ Blk W (N + 2) #[.int .i64 0] 59 ∧ Below N w W ∧ SetAt W z b S) ∧ N + 3 ≤ W.heap.size) := hide (fun W e => by
    subst e
    have b1 : Below w.heap.size w (((w.alloc (.cells #[.string ⟨p.toArray⟩] 9)).alloc (.cells keyZ 38)).alloc (.cells #[.int .i64 0] 59)) := (((Below.refl _ _).alloc (Nat.le_refl _) _).alloc (by simp) _).alloc (by simp; omega) _
    rw [hN]
    refine ⟨⟨((Blk.made w _ _).alloc _).alloc _, ⟨(blk_made1 w _ _ _ _).alloc _, rfl⟩, ?_, b1, hA.below b1⟩, by simp⟩
    have := Blk.made ((w.alloc (.cells #[.string ⟨p.toArray⟩] 9)).alloc (.cells keyZ 38)) #[.int .i64 0] 59
    rw [World.size_alloc, World.size_alloc] at this
    exact this)
  have HN := hide hN
  have HLn := hide hn
  have HEx := hide hex
  have HP := hide hp
  have HD := hide (fun W => digits_any p (by omega) W)
  rw [hpd] at HD
  have hpi : ¬ (64 : Int) < (p.length : Int) := by omega
  clear hA hn hex hpd
  refine (callsIn_wide (n := 5)).1 ?_
  refine callsIn_of_wp_marks Try.func21 rfl trivial ?_ rfl
  refine wpIn_wide.2 ?_
  simp only [Try.ntmps21, List.size_toArray, List.length_cons, List.length_nil, Nat.reduceAdd, Nat.reduceSub, Array.replicate_succ, Array.replicate_zero, List.push_toArray, List.append_toArray, List.nil_append, List.cons_append]
  go_upto_region 1 with fail
  rw [← hN]
  clear hN
  refine name_worldK (fun W => (Blk W N #[.string ⟨p.toArray⟩] 9 ∧ KeyAt W (N + 1) zK ∧ Blk W (N + 2) #[.int .i64 0] 59 ∧ Below N w W ∧ SetAt W z b S) ∧ N + 3 ≤ W.heap.size) (HW.out _ rfl) ?_
  rintro W0 ⟨hf0, hz0⟩
  obtain ⟨no, hno⟩ : ∃ no, no = W0.heap.size := ⟨_, rfl⟩
  have c3 : W0.cell? ⟨N, 0, none⟩ = some (.string ⟨p.toArray⟩) := by rw [hf0.1.cell]; rfl
  have l3 := hf0.1.lt
  have HW1 : Hid (∀ W, W = (W0.alloc (.cells keyZ 38)).alloc (.cells #[.bool false] 4) → FiS w N no p none W ∧ SetAt W z b S) := hide (fun W e => by
    subst e
    have b1 : Below W0.heap.size W0 ((W0.alloc (.cells keyZ 38)).alloc (.cells #[.bool false] 4)) := ((Below.refl _ _).alloc (Nat.le_refl _) _).alloc (by simp) _
    obtain ⟨f1, f2, f3, f4, f5⟩ := hf0
    rw [hno]
    exact ⟨⟨f1.below b1 f1.lt, f2.below b1, f3.below b1 f3.lt, ⟨(Blk.made W0 _ _).alloc _, rfl⟩, blk_made1 W0 _ _ _ _, f4.trans (b1.mono (by omega)), hz0⟩, f5.below b1⟩)
  clear HW hf0
  go_upto_region 5 with (go_at_call 40; refine (HD.out _).mono ?_; rintro e w' ⟨rfl, hw⟩; rw [hw]; clear hw)
  rw [← hno]
  clear hno HD c3 l3 hz0
  refine name_worldK (fun W => FiS w N no p none W ∧ SetAt W z b S) (HW1.out _ rfl) ?_
  rintro W2 ⟨hU2, hS2⟩
  have HAl := hide (all_any W2 z b S hS2 (by have := HLn.out; omega))
  have HU2 := hide hU2
  clear HW1 hU2 hS2
  go_upto_region 6 with (go_at_call 11; refine HAl.out.mono ?_; rintro e w3 ⟨b3, ao, cap, ks, rfl, k1, k2, k3, k4, k5, k6⟩; have K1 := hide k1; have K2 := hide k2; have K3 := hide k3; have K4 := hide k4; have K5 := hide k5; have K6 := hide k6; clear k1 k2 k3 k4 k5 k6; unfold riF)
  have HU3 := hide (HU2.out.below K6.out)
  have hN3 : N ≤ w3.heap.size := by have := HU3.out.sb.lt; omega
  have HNe : Hid (ks ≠ [] → no + 1 < gOf ao) := hide (fun h0 => by
    obtain ⟨g, o, e, _⟩ := K2.out.at' 0 (by cases ks with | nil => exact absurd rfl h0 | cons => simp)
    have h1 := K5.out.2 _ e
    have h2 := HU2.out.fb.lt
    rw [e]
    show no + 1 < g
    have h3 : W2.heap.size ≤ g := h1
    omega)
  have HKL : Hid (ks.length ≤ S.length) := hide (by
    exact List.Nodup.length_le_of_subset (rising_nodup K3.out) (fun y hy => ((K4.out y).1 hy).2))
  clear HAl HU2 K5 K6
  refine (wpIn_wide (n := 5)).1 ?_
  refine wpIn_rangeKl rfl (by omega) (gf := 36) (lb := #[.pointer (some ⟨b3, 0, none⟩)]) rfl trivial (enters_of Try.func36 (by kernel_rfl) rfl) (rising_fit (5 - 1) w3 b3 ao cap ks K1.out K2.out (by have := HKL.out; have := HLn.out; omega)) (Below.refl _ _) (KeepR.keeping (gOf ao)) (fun _ => rfl)
    (fun pre W => ∃ fo, FiS w N no p fo W ∧ FiO p pre fo)
    (fun c _ W => c = .ret ∧ FiT w N 32 zK W ∧ TwoB ks p)
    (FiS.ownFrom hN3)
    (fun c => FiT.ownFrom c hN3)
    ⟨none, HU3.out, fun x hx => by cases hx⟩ (fun A B h => KeepR.below h) ?round ?done ?stop
  case round =>
    rintro l pre x Wp W1 ⟨fo, hU1, hO1⟩ hbW hfit
    have HC1 := hide (hU1.below hbW)
    have HO1 := hide hO1
    have HX := hide x.2
    have hlen := hfit.length_le
    have HNg := hide (HNe.out (by intro e; rw [e] at hlen; simp at hlen))
    have HNi : Hid (∀ y ∈ pre, y.1 ≠ x.1) := hide (fun y hy e => by
      have hnd := (rising_nodup K3.out).sublist hfit.sublist
      rw [List.map_append, List.map_singleton] at hnd
      exact (List.nodup_append.1 hnd).2.2 _ (List.mem_map.2 ⟨y, hy, rfl⟩) x.1 (by simp) e)
    have HIk : Hid (∀ y ∈ pre ++ [x], y.1 ∈ ks) := hide (fun y hy => hfit.subset (List.mem_map.2 ⟨y, hy, rfl⟩))
    clear hU1 hbW hfit hlen hO1
    refine ⟨fun a₁ W₂ => a₁ = { tmps := #[.pointer (some ⟨z, 0, none⟩), .string ⟨p.toArray⟩, undef, .pointer (some ⟨N, 0, none⟩), .pointer (some ⟨N + 1, 0, none⟩), .pointer (some ⟨N + 2, 0, none⟩), .pointer (some ⟨no, 0, none⟩), .pointer (some ⟨no + 1, 0, none⟩), .pointer (some ⟨W1.heap.size, 0, none⟩), .string ⟨p.toArray⟩, .int .i64 p.length, .bool false, .bool false, .string ⟨p.toArray⟩, .bool true, .bool false, .bool false, undef, .pointer (some ⟨z, 0, none⟩), .func (.func 36) #[] #[.pointer (some ⟨b3, 0, none⟩)], keyV x.1, undef, undef, undef, undef, undef, undef, undef, undef, undef, undef, undef], defers := [] } ∧ KeyAt W₂ W1.heap.size x.1, ?asg, ?bd⟩
    case asg =>
      intro K hK
      unfold keV
      simp only [List.zip_toArray, List.zip_cons_cons, List.zip_nil_right, List.foldl_toArray, List.foldl_cons, List.foldl_nil, List.setIfInBounds_toArray, List.set_cons_succ, List.set_cons_zero]
      gi_wp2_with ((with_reducible refine wpListIn_put_keyK ?_ (.tmp 8) (.tmp 20) ?_ W1.heap.size ?_ W1 ?_ ?_ x.1 HX.out ?_ ?_); rfl; rfl; rfl; rfl; rfl; rfl; intro w2 HK2 hb2)
      exact hK _ _ ⟨rfl, HK2.out⟩ hb2
    case bd =>
      rintro a₁ W₂ q o' ⟨rfl, hk⟩ hb2 hlo hle
      have hC2 := HC1.out.below hb2
      have hC3 : FiS w N no p fo (W₂.putObj l o') := by
        have hr2 : ∀ r, some l = some r → ∃ o : Obj, W₂.heap[r]? = some o ∧ o.isCells = false := fun r e => by cases e; exact ⟨_, hlo, rfl⟩
        have hg := grownBy_putObj' W₂ l o'
        exact ⟨hC2.sb.keptRowK hg hr2, ⟨hC2.rk.1.keptRowK hg hr2, hC2.rk.2⟩, hC2.re.keptRowK hg hr2, ⟨hC2.ob.1.keptRowK hg hr2, hC2.ob.2⟩, hC2.fb.keptRowK hg hr2, below_put hC2.bel l o' (by omega), hC2.ne⟩
      have hne : W1.heap.size ≠ l := fun e => by
        have h1 := hk.1
        unfold Blk at h1
        rw [e, hlo] at h1
        cases h1
      have hk3 : KeyAt (W₂.putObj l o') W1.heap.size x.1 := ⟨(World.putObj_heap_other hne).trans hk.1, hk.2⟩
      refine name_worldInK' (fun V => FiS w N no p fo V ∧ KeyAt V W1.heap.size x.1) ⟨hC3, hk3⟩ ?_
      rintro V ⟨hCV, hKV⟩
      have HBg := hide (begins_any x.1 x.2 p HP.out V)
      have c3 : V.cell? ⟨N, 0, none⟩ = some (.string ⟨p.toArray⟩) := by rw [hCV.sb.cell]; rfl
      have l3 := hCV.sb.lt
      have HCV := hide hCV
      have HKV := hide hKV
      clear hC2 hC3 hne hk3 hk hb2 hlo hle hCV hKV
      gi_wp2_with ((with_reducible refine wpListIn_keyK (.tmp 8) W1.heap.size x.1 HKV.out ?_ ?_ ?_ ?_); rfl; rfl; rfl)
      refine ⟨trivial, (CallsIn.inRound l (callsIn_wide.2 HBg.out)).mono ?_⟩
      rintro e V2 ⟨rfl, hbV2⟩
      have HC2 := hide (HCV.out.below hbV2)
      have HK2 := hide (HKV.out.below hbV2)
      have HLD2 := hide (KeepsLD.below hbV2)
      have HKR2 : Hid (KeepR (gOf ao) V V2) := hide (KeepR.below hbV2)
      clear hbV2 HBg c3 l3
      by_cases hbx : begK x.1 p = true
      · rw [hbx]
        have HBX := hide hbx
        clear hbx
        have c7 : V2.cell? ⟨no + 1, 0, none⟩ = some (.bool fo.isSome) := by rw [HC2.out.fb.cell]; rfl
        have l7 := HC2.out.fb.lt
        cases fo with
        | none =>
          have HE := hide (HO1.out.yes x HBX.out)
          have HOb : Hid (KeyAt V2 no zK) := hide HC2.out.ob
          rw [show (none : Option (List UInt8)).isSome = false from rfl] at c7
          gi_wp2_with (first | ((with_reducible refine wpListIn_keyK (.tmp 8) W1.heap.size x.1 HK2.out ?_ ?_ ?_ ?_); rfl; rfl; rfl) | ((with_reducible refine wpListIn_store_keyK ?_ (.tmp 6) (.tmp 27) ?_ no ?_ zK x.1 HOb.out HX.out ?_ ?_); rfl; rfl; rfl; rfl; intro w4 HK4 HG4; generalize hG : wpListIn _ _ _ _ _ _ _ _ = G))
          have hne0 := HC2.out.ne
          have hfb4 : Blk w4 (no + 1) #[.bool false] 4 := HC2.out.fb.grown HG4.out (fun e => by have := Option.some.inj e; omega)
          have c8 : w4.cell? ⟨no + 1, 0, none⟩ = some (.bool false) := by rw [hfb4.cell]; rfl
          have f8 := hfb4.frozen 0
          have l8 := hfb4.lt
          have hg5 := grownBy_set w4 (no + 1) 0 (.bool true)
          have HE5 : Hid (FiS w N no p (some x.1) (w4.setCell ⟨no + 1, 0, none⟩ (.bool true))) := hide ⟨(HC2.out.sb.grown HG4.out (fun e => by have := Option.some.inj e; omega)).grown hg5 (fun e => by have := Option.some.inj e; omega), (HC2.out.rk.grown HG4.out (fun e => by have := Option.some.inj e; omega)).grown hg5 (fun e => by have := Option.some.inj e; omega), (HC2.out.re.grown HG4.out (fun e => by have := Option.some.inj e; omega)).grown hg5 (fun e => by have := Option.some.inj e; omega), HK4.out.grown hg5 (fun e => by have := Option.some.inj e; omega), hfb4.set 0 _, below_kept (below_kept HC2.out.bel (by have := HC2.out.sb.lt; omega) HG4.out (fun r e => by cases e; exact Nat.le_refl _) (show N ≤ no by omega)) (by have := HC2.out.sb.lt; have := HG4.out.size; omega) hg5 (fun r e => by cases e; exact Nat.le_refl _) (show N ≤ no + 1 by omega), hne0⟩
          have HL5 : Hid (KeepsLD V (w4.setCell ⟨no + 1, 0, none⟩ (.bool true))) := hide ((HLD2.out.trans (KeepsLD.grown HG4.out (fun q e => by have h := HC2.out.ob.1; unfold Blk at h; rw [h] at e; cases e) (fun q e => by have h := HC2.out.ob.1; unfold Blk at h; rw [h] at e; cases e))).trans (KeepsLD.grown hg5 (fun q e => by have h := hfb4; unfold Blk at h; rw [h] at e; cases e) (fun q e => by have h := hfb4; unfold Blk at h; rw [h] at e; cases e)))
          have HR5 : Hid (KeepR (gOf ao) V (w4.setCell ⟨no + 1, 0, none⟩ (.bool true))) := hide ((HKR2.out.trans (KeepR.grown HG4.out (fun e => by have := Option.some.inj e; have := HNg.out; omega))).trans (KeepR.grown hg5 (fun e => by have := Option.some.inj e; have := HNg.out; omega)))
          subst hG
          clear hg5 hfb4 HOb HC2 HK4 HG4 c7 l7
          gi_wp2
          exact ⟨HL5.out, HR5.out, some x.1, HE5.out, HE.out⟩
        | some k =>
          have HTw : Hid (TwoB ks p) := hide (by
            obtain ⟨⟨y, h1, h2, h3⟩, _⟩ := HO1.out
            exact ⟨y.1, HIk.out y (List.mem_append.2 (.inl h1)), x.1, HIk.out x (List.mem_append.2 (.inr (List.mem_singleton.2 rfl))), HNi.out y h1, h3, HBX.out⟩)
          have HRk := hide HC2.out.rk
          have hz32 : keyZ.size = 32 := rfl
          have hzn : ¬ keyZ = #[] := fun e => by rw [e] at hz32; cases hz32
          rw [show (some k : Option (List UInt8)).isSome = true from rfl] at c7
          gi_wp2_with ((with_reducible refine wpListIn_store_keyK ?_ (.tmp 4) (.tmp 26) ?_ (N + 1) ?_ zK zK HRk.out ?_ ?_ ?_); rfl; rfl; rfl; rfl; rfl; intro w4 HK4 HG4; generalize hG : wpListIn _ _ _ _ _ _ _ _ = G)
          have hre4 : Blk w4 (N + 2) #[.int .i64 0] 59 := HC2.out.re.grown HG4.out (fun e => by have := Option.some.inj e; omega)
          have c8 : w4.cell? ⟨N + 2, 0, none⟩ = some (.int .i64 0) := by rw [hre4.cell]; rfl
          have f8 := hre4.frozen 0
          have l8 := hre4.lt
          have hg5 := grownBy_set w4 (N + 2) 0 (.int .i64 32)
          have HE5 : Hid (FiT w N 32 zK (w4.setCell ⟨N + 2, 0, none⟩ (.int .i64 32))) := hide ⟨HK4.out.grown hg5 (fun e => by have := Option.some.inj e; omega), hre4.set 0 _, below_kept (below_kept HC2.out.bel (by have := HC2.out.sb.lt; omega) HG4.out (fun r e => by cases e; exact Nat.le_refl _) (show N ≤ N + 1 by omega)) (by have := HC2.out.sb.lt; have := HG4.out.size; omega) hg5 (fun r e => by cases e; exact Nat.le_refl _) (show N ≤ N + 2 by omega)⟩
          have HL5 : Hid (KeepsLD V (w4.setCell ⟨N + 2, 0, none⟩ (.int .i64 32))) := hide ((HLD2.out.trans (KeepsLD.grown HG4.out (fun q e => by have h := HC2.out.rk.1; unfold Blk at h; rw [h] at e; cases e) (fun q e => by have h := HC2.out.rk.1; unfold Blk at h; rw [h] at e; cases e))).trans (KeepsLD.grown hg5 (fun q e => by have h := hre4; unfold Blk at h; rw [h] at e; cases e) (fun q e => by have h := hre4; unfold Blk at h; rw [h] at e; cases e)))
          subst hG
          clear hg5 hre4 HRk HC2 HK4 HG4 c7 l7
          gi_wp2
          exact ⟨HL5.out, rfl, HE5.out, HTw.out⟩
      · have hbf : begK x.1 p = false := by simpa using hbx
        rw [hbf]
        have HE := hide (HO1.out.no x hbf)
        clear hbx hbf
        gi_wp2
        exact ⟨HLD2.out, HKR2.out, fo, HC2.out, HE.out⟩
  case stop =>
    rintro D c pre W3 hD ⟨rfl, hT, hTw⟩ hK
    have HT := hide hT
    have HK := hide hK
    have HR : Hid (FindC w S p (.returned (.tuple #[keyV zK, .int .i64 32])) (W3.putObj D (.deferred none))) := hide ⟨zK, 32, rfl, rfl, by rw [← HN.out]; exact below_put hT.bel D _ (by omega), .inr ⟨rfl, by
      obtain ⟨x, h1, y, h2, h3⟩ := hTw
      have k1 := (K4.out x).1 h1
      have k2 := (K4.out y).1 h2
      exact ⟨x, k1.2, y, k2.2, k1.1, k2.1, h3⟩⟩⟩
    clear hT hTw hK
    refine wpIn_wide.2 ?_
    go_wp2
    exact leaveCC (t := 4) (u := 5) rfl HK.out rfl rfl HT.out HR.out
  case done =>
    rintro D xs W4 hD hxs ⟨fo, hU4, hO4⟩ hK4
    have HXS : Hid (xs.map Subtype.val = ks) := hide hxs
    cases fo with
    | none =>
      exfalso
      obtain ⟨x, h1, h2, h3⟩ := HEx.out
      obtain ⟨y, hy, rfl⟩ := List.mem_map.1 (show x ∈ xs.map Subtype.val by rw [HXS.out]; exact (K4.out x).2 ⟨h2, h1⟩)
      rw [hO4 y hy] at h3
      cases h3
    | some k =>
      have HKl : Hid (k.length = 32) := hide (by obtain ⟨⟨y, _, rfl, _⟩, _⟩ := hO4; exact y.2)
      have HOn : Hid (∀ x ∈ S, x.length = 32 → begK x p = true → x = k) := hide (fun x hx hl hb => by
        obtain ⟨y, hy, rfl⟩ := List.mem_map.1 (show x ∈ xs.map Subtype.val by rw [HXS.out]; exact (K4.out x).2 ⟨hl, hx⟩)
        exact hO4.2 y hy hb)
      have c7 : W4.cell? ⟨no + 1, 0, none⟩ = some (.bool true) := by rw [hU4.fb.cell]; rfl
      have l7 := hU4.fb.lt
      have HU4 := hide hU4
      have HOb : Hid (KeyAt W4 no k) := hide hU4.ob
      have HRk := hide hU4.rk
      have HK4 := hide hK4
      clear hU4 hO4 hK4 hxs
      go_wp2_with (first | ((with_reducible refine wpList_key (.tmp 6) no k HOb.out ?_ ?_ ?_ ?_); rfl; rfl; rfl) | ((with_reducible refine wpList_store_keyK ?_ (.tmp 4) (.tmp 31) ?_ (N + 1) ?_ zK k HRk.out HKl.out ?_ ?_); rfl; rfl; rfl; rfl; intro w4 HK5 HG4; generalize hG : wpList _ _ _ _ _ _ = G))
      have hre4 : Blk w4 (N + 2) #[.int .i64 0] 59 := HU4.out.re.grown HG4.out (fun e => by have := Option.some.inj e; omega)
      have c8 : w4.cell? ⟨N + 2, 0, none⟩ = some (.int .i64 0) := by rw [hre4.cell]; rfl
      have f8 := hre4.frozen 0
      have l8 := hre4.lt
      have hg5 := grownBy_set w4 (N + 2) 0 (.int .i64 0)
      have HE5 : Hid (FiT w N 0 k (w4.setCell ⟨N + 2, 0, none⟩ (.int .i64 0))) := hide ⟨HK5.out.grown hg5 (fun e => by have := Option.some.inj e; omega), hre4.set 0 _, below_kept (below_kept HU4.out.bel (by have := HU4.out.sb.lt; omega) HG4.out (fun r e => by cases e; exact Nat.le_refl _) (show N ≤ N + 1 by omega)) (by have := HU4.out.sb.lt; have := HG4.out.size; omega) hg5 (fun r e => by cases e; exact Nat.le_refl _) (show N ≤ N + 2 by omega)⟩
      have HD5 : Hid ((w4.setCell ⟨N + 2, 0, none⟩ (.int .i64 0)).heap[D]? = some (.deferred (some []))) := hide (((KeepsLD.grown HG4.out (fun q e => by have h := HU4.out.rk.1; unfold Blk at h; rw [h] at e; cases e) (fun q e => by have h := HU4.out.rk.1; unfold Blk at h; rw [h] at e; cases e)).trans (KeepsLD.grown hg5 (fun q e => by have h := hre4; unfold Blk at h; rw [h] at e; cases e) (fun q e => by have h := hre4; unfold Blk at h; rw [h] at e; cases e))).df _ _ HK4.out)
      have HR : Hid (FindC w S p (.returned (.tuple #[keyV k, .int .i64 0])) ((w4.setCell ⟨N + 2, 0, none⟩ (.int .i64 0)).putObj D (.deferred none))) := hide ⟨k, 0, rfl, HKl.out, by rw [← HN.out]; exact below_put HE5.out.bel D _ (by omega), .inl ⟨rfl, HOn.out⟩⟩
      subst hG
      clear hg5 hre4 HRk HOb HK5 HG4 HU4 HK4
      go_wp2
      exact leaveCC (t := 4) (u := 5) rfl HD5.out rfl rfl HE5.out HR.out
end Go.Proofs.Ytnloglecfbhpcaa

/- KeyAlgebra, pure: how many keys; what Next, Short and Find tell of one another. -/
namespace Go.Proofs.Ytnloglecfbhpcaa
set_option linter.unusedVariables false
set_option linter.unusedSimpArgs false
open Go.RowKit Go.Shelf
set_option maxRecDepth 100000

theorem same_len {α : Type} {l m : List α} (hl : l.Nodup) (hm : m.Nodup) (h : ∀ x, x ∈ l ↔ x ∈ m) : l.length = m.length :=
  Nat.le_antisymm (List.Nodup.length_le_of_subset hl (fun x hx => (h x).1 hx)) (List.Nodup.length_le_of_subset hm (fun x hx => (h x).2 hx))
theorem filter_both {α : Type} (l : List α) (p : α → Bool) : (l.filter p).length + (l.filter fun x => !p x).length = l.length := by
  induction l with
  | nil => rfl
  | cons a l ih =>
    by_cases h : p a = true
    · simp [List.filter_cons, h]; omega
    · have h' : p a = false := by simpa using h
      simp [List.filter_cons, h']; omega
theorem nodup_filter {α : Type} {l : List α} (p : α → Bool) (h : l.Nodup) : (l.filter p).Nodup := h.sublist List.filter_sublist
/-- How many keys the three sets have. -/
theorem sets_len {A B U V M : List (List UInt8)} (hA : A.Nodup) (hB : B.Nodup) (hU : U.Nodup) (hV : V.Nodup) (hM : M.Nodup) (a32 : ∀ x ∈ A, x.length = 32) (b32 : ∀ x ∈ B, x.length = 32) (u : ∀ x : List UInt8, x ∈ U ↔ (x.length = 32 ∧ (x ∈ A ∨ x ∈ B))) (v : ∀ x : List UInt8, x ∈ V ↔ (x.length = 32 ∧ x ∈ A ∧ x ∈ B)) (m : ∀ x : List UInt8, x ∈ M ↔ (x.length = 32 ∧ x ∈ A ∧ ¬ x ∈ B)) :
    U.length + V.length = A.length + B.length ∧ M.length + V.length = A.length := by
  have h1 := filter_both A (fun x => decide (x ∈ B))
  have h2 := filter_both B (fun x => decide (x ∈ A))
  have e1 : V.length = (A.filter fun x => decide (x ∈ B)).length := same_len hV (nodup_filter _ hA) (fun x => by
    rw [v x, List.mem_filter, decide_eq_true_iff]
    exact ⟨fun h => h.2, fun h => ⟨a32 x h.1, h⟩⟩)
  have e2 : V.length = (B.filter fun x => decide (x ∈ A)).length := same_len hV (nodup_filter _ hB) (fun x => by
    rw [v x, List.mem_filter, decide_eq_true_iff]
    exact ⟨fun h => ⟨h.2.2, h.2.1⟩, fun h => ⟨b32 x h.1, h.2, h.1⟩⟩)
  have e3 : M.length = (A.filter fun x => !decide (x ∈ B)).length := same_len hM (nodup_filter _ hA) (fun x => by
    rw [m x, List.mem_filter]
    simp only [Bool.not_eq_true', decide_eq_false_iff_not]
    exact ⟨fun h => h.2, fun h => ⟨a32 x h.1, h⟩⟩)
  have e4 : U.length = (A ++ B.filter fun x => !decide (x ∈ A)).length := same_len hU (List.nodup_append.2 ⟨hA, nodup_filter _ hB, fun x hx y hy e => by
    have := (List.mem_filter.1 hy).2
    rw [← e] at this
    simp [hx] at this⟩) (fun x => by
    rw [u x, List.mem_append, List.mem_filter]
    simp only [Bool.not_eq_true', decide_eq_false_iff_not]
    constructor
    · rintro ⟨_, h | h⟩
      · exact .inl h
      · by_cases hx : x ∈ A
        · exact .inl hx
        · exact .inr ⟨h, hx⟩
    · rintro (h | h)
      · exact ⟨a32 x h, .inl h⟩
      · exact ⟨b32 x h.1, .inr h.1⟩)
  rw [List.length_append] at e4
  omega
/-- What was told is as long as the set. -/
theorem told_len {S : List (List UInt8)} {xs : List K32} (hS : S.Nodup) (s32 : ∀ x ∈ S, x.length = 32) (hr : Rising (xs.map Subtype.val)) (hm : ∀ x : List UInt8, x ∈ xs.map Subtype.val ↔ (x.length = 32 ∧ x ∈ S)) : xs.length = S.length := by
  have := same_len (rising_nodup hr) hS (fun x => by rw [hm x]; exact ⟨fun h => h.2, fun h => ⟨s32 x h, h⟩⟩)
  simpa using this
theorem addAll_nodup (ks : List (List UInt8)) : (addAll ks).Nodup := by
  have H : ∀ (ks S : List (List UInt8)), S.Nodup → (ks.foldl (fun S k => addK k S) S).Nodup := by
    intro ks
    induction ks with
    | nil => exact fun S h => h
    | cons k ks ih => exact fun S h => ih _ (addK_nodup k S h)
  exact H ks [] List.nodup_nil
theorem mem_addAll (ks : List (List UInt8)) (x : List UInt8) : x ∈ addAll ks ↔ x ∈ ks := by
  have H : ∀ (ks S : List (List UInt8)), x ∈ ks.foldl (fun S k => addK k S) S ↔ x ∈ ks ∨ x ∈ S := by
    intro ks
    induction ks with
    | nil => simp
    | cons k ks ih => exact fun S => by rw [List.foldl_cons, ih, mem_addK, List.mem_cons]; simp only [or_assoc, or_left_comm]
  unfold addAll
  rw [H]; simp
theorem begK_take {k : List UInt8} {m : Nat} (hk : k.length = 32) (hm : m ≤ 64) (x : List UInt8) : begK x ((hexOf k).take m) = true ↔ (hexOf x).take m = (hexOf k).take m := by
  have hl : ((hexOf k).take m).length = m := by rw [List.length_take, hexOf_len]; omega
  unfold begK
  rw [hl]
  exact beq_iff_eq
theorem allDig_take {k : List UInt8} (m : Nat) (h : allDig (hexOf k) = true) : allDig ((hexOf k).take m) = true := by
  unfold allDig at *
  rw [List.all_eq_true] at *
  exact fun x hx => h x (List.mem_of_mem_take hx)
/-- What Short tells Find finds; and with a digit less it doesn't. -/
theorem find_short {S : List (List UInt8)} {k k' : List UInt8} {m : Nat} {e : Int} (hk : k.length = 32) (hin : k ∈ S) (hm : m ≤ 64) (hd : ∀ x ∈ S, x.length = 32 → x ≠ k → (hexOf x).take m ≠ (hexOf k).take m) (h : (e = 0 ∧ ∀ x ∈ S, x.length = 32 → begK x ((hexOf k).take m) = true → x = k') ∨ (e = 32 ∧ ∃ x ∈ S, ∃ y ∈ S, x.length = 32 ∧ y.length = 32 ∧ x ≠ y ∧ begK x ((hexOf k).take m) = true ∧ begK y ((hexOf k).take m) = true)) : e = 0 ∧ k' = k := by
  have one : ∀ x ∈ S, x.length = 32 → begK x ((hexOf k).take m) = true → x = k := fun x hx hl hb => by
    by_cases e : x = k
    · exact e
    · exact absurd ((begK_take hk hm x).1 hb) (hd x hx hl e)
  rcases h with ⟨h1, h2⟩ | ⟨h1, x, hx, y, hy, lx, ly, hne, bx, bY⟩
  · exact ⟨h1, (h2 k hin hk ((begK_take hk hm k).2 rfl)).symm⟩
  · exact absurd ((one x hx lx bx).trans (one y hy ly bY).symm) hne
theorem find_less {S : List (List UInt8)} {k k' : List UInt8} {m : Nat} {e : Int} (hk : k.length = 32) (hin : k ∈ S) (hm : m ≤ 64) (ho : ∃ x ∈ S, x.length = 32 ∧ x ≠ k ∧ (hexOf x).take m = (hexOf k).take m) (h : (e = 0 ∧ ∀ x ∈ S, x.length = 32 → begK x ((hexOf k).take m) = true → x = k') ∨ (e = 32 ∧ ∃ x ∈ S, ∃ y ∈ S, x.length = 32 ∧ y.length = 32 ∧ x ≠ y ∧ begK x ((hexOf k).take m) = true ∧ begK y ((hexOf k).take m) = true)) : e = 32 := by
  obtain ⟨x, h1, h2, h3, h4⟩ := ho
  rcases h with ⟨_, h6⟩ | ⟨h5, _⟩
  · exact absurd ((h6 x h1 h2 ((begK_take hk hm x).2 h4)).trans (h6 k hin hk ((begK_take hk hm k).2 rfl)).symm) h3
  · exact h5
end Go.Proofs.Ytnloglecfbhpcaa

/- KeyAlgebra, pure: Next along a rising row. -/
namespace Go.Proofs.Ytnloglecfbhpcaa
set_option linter.unusedVariables false
set_option linter.unusedSimpArgs false
open Go.RowKit Go.Shelf

theorem rising_lt {ks : List (List UInt8)} (hr : Rising ks) {i j : Nat} (hi : i < ks.length) (hj : j < ks.length) (h : i < j) : cmpK ks[i] ks[j] < 0 := List.pairwise_iff_getElem.1 hr i j hi hj h
/-- Next tells the first of those that fit, which are the ones from a place on. -/
theorem least_at {ks : List (List UInt8)} {V : List UInt8 → Prop} (hr : Rising ks) (hv : ∀ x, V x ↔ x ∈ ks) {after k : List UInt8} {any ok : Bool} {j : Nat} (hf : ∀ i (h : i < ks.length), FitsN after any ks[i] ↔ j ≤ i) (h : LeastN V after any k ok) : (∀ hj : j < ks.length, ok = true ∧ k = ks[j]) ∧ (ks.length ≤ j → ok = false) := by
  rcases h with ⟨h1, h2, h3, h4⟩ | ⟨h1, _, h3⟩
  · obtain ⟨i, hi, rfl⟩ := List.getElem_of_mem ((hv k).1 h2)
    have hij := (hf i hi).1 h3
    refine ⟨fun hj => ⟨h1, ?_⟩, fun hj => by omega⟩
    have hc := h4 ks[j] ((hv _).2 (List.getElem_mem _)) ((hf j hj).2 (Nat.le_refl _))
    by_cases e : i = j
    · subst e; rfl
    · have hl := rising_lt hr hj hi (by omega)
      have := cmpK_neg ks[j] ks[i]
      omega
  · exact ⟨fun hj => absurd ((hf j hj).2 (Nat.le_refl _)) (h3 ks[j] ((hv _).2 (List.getElem_mem _))), fun _ => h1⟩
theorem fits_first {ks : List (List UInt8)} (after : List UInt8) : ∀ i (h : i < ks.length), FitsN after true ks[i] ↔ 0 ≤ i := fun i _ => ⟨fun _ => Nat.zero_le _, fun _ => .inl rfl⟩
theorem fits_after {ks : List (List UInt8)} (hr : Rising ks) {j : Nat} (hj : j < ks.length) : ∀ i (h : i < ks.length), FitsN ks[j] false ks[i] ↔ j + 1 ≤ i := fun i hi => by
  unfold FitsN
  constructor
  · rintro (h | h)
    · cases h
    · rcases Nat.lt_or_ge j i with h1 | h1
      · exact h1
      · exfalso
        rcases Nat.lt_or_ge i j with h2 | h2
        · have := rising_lt hr hi hj h2; omega
        · have e : i = j := by omega
          subst e
          rw [cmpK_self] at h
          exact absurd h (by decide)
  · intro h
    have h1 := rising_lt hr hj hi (by omega)
    have := cmpK_neg ks[j] ks[i]
    exact .inr (by omega)
end Go.Proofs.Ytnloglecfbhpcaa
