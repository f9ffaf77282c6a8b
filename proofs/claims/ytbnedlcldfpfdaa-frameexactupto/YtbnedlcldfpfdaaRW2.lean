/- FrameRow, walked. -/
import Derived.Test.YtbnedlcldfpfdaaRW1
import Derived.Test.YtbnedlcldfpfdaaRW3
namespace Go.Proofs.Ytbnedlcldfpfdaa
set_option linter.unusedVariables false
set_option linter.unusedSimpArgs false
open Go.RowKit Go.Shelf
attribute [local go_sem] Oper.semAt_some

theorem aggBool (w : World) : (isAgg 4).run Try.prog w = .ok false w := by kernel_rfl
theorem load_bool {w : World} {a : Addr} {v : Value} (hc : w.cell? a = some v) : (loadVar 4 a).run Try.prog w = .ok v w := by
  simp [loadVar, Sem.run_bind, aggBool, Result.andThen, go_sem, hc]
theorem funcNotNil (z : Nat) (W : World) : (binOp .eql 42 (.func (.func 34) #[] #[.pointer (some ⟨z, 0, none⟩)]) .nilFunc).run Try.prog W = .ok (.bool false) W := by kernel_rfl
theorem funcGuard (z : Nat) (op : BinOp) (x y : Operand) (W : World) : (eqGuard op 42 x y (.func (.func 34) #[] #[.pointer (some ⟨z, 0, none⟩)]) .nilFunc).run Try.prog W = .ok () W := by cases op <;> kernel_rfl
theorem asg2 {F : Fence} {n : Nat} {P : Program} {o1 o2 : Oper} {i j : Nat} {x1 x2 : Operand} (g1 : o1.guard = none) (g2 : o2.guard = none) (h1 : o1.op = .assign x1) (h2 : o2.op = .assign x2) (a : Act) (W0 : World) (K : Act → World → Prop)
    (hK : K ((a.put o1.dst (a.eval x1)).put o2.dst ((a.put o1.dst (a.eval x1)).eval x2)) W0) : ((Code.region i #[o1] false).seq (Code.region j #[o2] false)).wpIn F n P (Exit.then K (fun _ _ _ => False)) a W0 := by
  refine wpIn_seq (wpIn_region_lit (l := [o1]) (BigFrame.wpListIn_want (by simp [Region.wanted, g1]) fun K1 hK1 => BigFrame.wpIn_assign x1 h1 (hK1 _ _ ?_)))
  refine wpIn_region_lit (l := [o2]) (BigFrame.wpListIn_want (by simp [Region.wanted, g2]) fun K2 hK2 => BigFrame.wpIn_assign x2 h2 (hK2 _ _ ?_))
  exact hK
/-- Between two bodies: the records so far, their places (in a box), their sizes; all of them apart. -/
structure RowSt (w wr : World) (z6 : Nat) (rw' : Array Value) (ps : List (List UInt8)) (k : Nat) (va vt vs : Value) : Prop where
  all : OwnsB wr w.heap.size va (recL (ps.take k))
  box : Blk wr z6 #[vt] 34
  at' : OwnsI wr w.heap.size vt (ats ps k)
  sz : OwnsI wr w.heap.size vs (szs ps k)
  apart : ∀ g, vt.ownBlock = some g → vs.ownBlock ≠ some g
  row : Blk wr w.heap.size rw' 33
  res : Blk wr (w.heap.size + 1) #[.bool false] 4
  bel : Below w.heap.size w wr
theorem RowSt.below {w wr w' : World} {z6 : Nat} {rw' : Array Value} {ps : List (List UInt8)} {k : Nat} {va vt vs : Value} (h : RowSt w wr z6 rw' ps k va vt vs) (hb : Below wr.heap.size wr w') : RowSt w w' z6 rw' ps k va vt vs :=
  ⟨h.all.below hb, h.box.below hb h.box.lt, h.at'.below hb, h.sz.below hb, h.apart, h.row.below hb h.row.lt, h.res.below hb h.res.lt, Below.step h.bel hb⟩
/-- A place more. -/
theorem RowSt.place {w wr w' : World} {z6 : Nat} {rw' : Array Value} {ps : List (List UInt8)} {k : Nat} {va vt vt' vs : Value} (h : RowSt w wr z6 rw' ps k va vt vs) (hg : wr.grownBy w' vt.ownBlock) (hl : vt'.ownBlock = vt.ownBlock ∨ vt'.ownBlock = some wr.heap.size) (hz : w.heap.size < z6) :
    OwnsB w' w.heap.size va (recL (ps.take k)) ∧ Blk w' z6 #[vt] 34 ∧ OwnsI w' w.heap.size vs (szs ps k) ∧ (∀ g, vt'.ownBlock = some g → vs.ownBlock ≠ some g) ∧ Blk w' w.heap.size rw' 33 ∧ Blk w' (w.heap.size + 1) #[.bool false] 4 ∧ Below w.heap.size w w' := by
  refine ⟨h.all.grown hg ?_, h.box.grown hg ?_, h.sz.grown hg ?_, ?_, h.row.grown hg ?_, h.res.grown hg ?_, own_below h.bel h.at' h.bel.size hg⟩
  · intro g e1 e2
    exact own_own_ne h.at' h.all (by decide) g e2.symm e1
  · intro e
    exact blk_own_ne h.box h.at' (by decide) z6 e.symm rfl
  · intro g e1 e2
    exact h.apart g e2.symm e1
  · intro g e1 e2
    rcases hl with e | e
    · exact h.apart g (e ▸ e1) e2
    · rw [e] at e1
      have hb := (owns_lt h.sz g e2).2
      have := Option.some.inj e1
      omega
  · intro e
    exact blk_own_ne h.row h.at' (by decide) w.heap.size e.symm rfl
  · intro e
    exact blk_own_ne h.res h.at' (by decide) (w.heap.size + 1) e.symm rfl
theorem owns_kept {W W' : World} {base n : Nat} {e : TypeId} {v : Value} {ys : List Value} {row : Option Nat} (h : W.ownsRow base e 1 v n ys) (hg : W.grownBy W' row) (hr : ∀ r, row = some r → ∃ o : Obj, W.heap[r]? = some o ∧ o.isCells = false) : W'.ownsRow base e 1 v n ys := by
  obtain ⟨h0, h1 | ⟨g, cap, cur, rfl, hb, hh, hx⟩⟩ := h
  · exact ⟨h0, .inl h1⟩
  · exact ⟨h0, .inr ⟨g, cap, cur, rfl, hb, (grownBy_keeps_cells hg hr hh rfl).trans hh, hx⟩⟩
theorem RowSt.ownFrom {β : Type} {w : World} {B z6 : Nat} {rw' : Array Value} {ps : List (List UInt8)} {k : Nat} {va vt vs : Value} (hB : w.heap.size ≤ B) : OwnFrom B (fun (_ : β) W => RowSt w W z6 rw' ps k va vt vs) :=
  fun s A C row h hg hr => by
    have hr2 : ∀ r, row = some r → ∃ o : Obj, A.heap[r]? = some o ∧ o.isCells = false := fun r e => (hr r e).2
    exact ⟨owns_kept h.all hg hr2, h.box.keptRow hg hr2, owns_kept h.at' hg hr2, owns_kept h.sz hg hr2, h.apart, h.row.keptRow hg hr2, h.res.keptRow hg hr2, ownFrom_below (β := β) (Nat.le_refl _) hB s A C row h.bel hg hr⟩
theorem RowSt.setBox {w W : World} {z6 z13 : Nat} {rw' cs : Array Value} {ps : List (List UInt8)} {k : Nat} {va vt vs v : Value} (h : RowSt w W z6 rw' ps k va vt vs) (hz : Blk W z13 cs 3) (h1 : z6 < z13) (h2 : w.heap.size + 1 < z6) (hi : ∀ g, vt.ownBlock = some g → g ≠ z13) (hj : ∀ g, vs.ownBlock = some g → g ≠ z13) : RowSt w (W.setCell ⟨z13, 0, none⟩ v) z6 rw' ps k va vt vs := by
  have hg := grownBy_set W z13 0 v
  refine ⟨h.all.grown hg (fun g e1 e2 => ?_), h.box.setOther _ _ (by simp; omega), h.at'.grown hg (fun g e1 e2 => hi g e1 (Option.some.inj e2)), h.sz.grown hg (fun g e1 e2 => hj g e1 (Option.some.inj e2)), h.apart, h.row.setOther _ _ (by simp; omega), h.res.setOther _ _ (by simp; omega), h.bel.setCell (by simp; omega) _⟩
  exact blk_own_ne hz h.all (by decide) g e1 (Option.some.inj e2)
set_option maxRecDepth 40000 in
set_option maxHeartbeats 8000000 in
theorem frameRow_any (w : World) (ap : Option Addr) (c : Nat) (ps : List (List UInt8)) (hp : Parts w ap ps) (vA : Value) (hd : List UInt8) (hA : RdA w vA hd) (hAl : hd.length ≤ 140737488355328) (hpl : ps.length ≤ 5864062014806) (hpb : ∀ j (h : j < ps.length), ps[j].length ≤ 140737488355328) : Calls Try.prog 4 #[.agg #[.slice ap ps.length c, vA]] w (TrueC w) := by
  have HP := hide hp
  have HA := hide hA
  have HPB := hide hpb
  obtain ⟨ao, ca, rfl, -⟩ := hA.slice
  clear hp hA hpb
  refine (callsIn_wide (n := 5)).1 ?_
  refine callsIn_of_wp_marks Try.func4 rfl trivial ?_ rfl
  refine wpIn_wide.2 ?_
  simp only [Try.ntmps4, List.size_toArray, List.length_cons, List.length_nil, Nat.reduceAdd, Nat.reduceSub, Array.replicate_succ, Array.replicate_zero, List.push_toArray, List.append_toArray, List.nil_append, List.cons_append]
  obtain ⟨w1, hw1⟩ : ∃ w1, w1 = (w.alloc (.cells #[.slice ap ps.length c, .slice ao hd.length ca] 33)).alloc (.cells #[.bool false] 4) := ⟨_, rfl⟩
  have HX1 : Hid (Blk w1 w.heap.size #[.slice ap ps.length c, .slice ao hd.length ca] 33) := hide (by rw [hw1]; exact (Blk.made w _ _).alloc _)
  have HZ1 : Hid (Blk w1 (w.heap.size + 1) #[.bool false] 4) := hide (by
    rw [hw1]
    have h := Blk.made (w.alloc (.cells #[.slice ap ps.length c, .slice ao hd.length ca] 33)) #[.bool false] 4
    rw [World.size_alloc] at h
    exact h)
  have HB1 : Hid (Below w.heap.size w w1) := hide (by rw [hw1]; exact ((Below.refl _ _).alloc (Nat.le_refl _) _).alloc (by simp) _)
  have hw1' := hw1.symm
  have HP1 := hide (HP.out.below HB1.out)
  have q0 : w1.cell? ⟨w.heap.size, 0, none⟩ = some (.slice ap ps.length c) := HX1.out.cell 0
  clear hw1
  go_wp2
  clear hw1'
  go_loopw [3, 4] (fun n i wr => ∃ k : Nat, n = .int .i64 ((offs ps k : Nat) : Int) ∧ i = .int .i64 k ∧ k ≤ ps.length ∧ offs ps k ≤ 67108864 ∧ w1 = wr) (fun _ i _ => ps.length - (intOf i).toNat)
  case atStart => exact ⟨0, rfl, rfl, by omega, by simp [offs, recL], rfl⟩
  case round =>
    obtain ⟨k, rfl, rfl, hk, hok, rfl⟩ := hrel
    by_cases hlt : k < ps.length
    · have hki : (k : Int) < ps.length := by omega
      obtain ⟨b, o, v, rfl, hc, hr⟩ := HP1.out k hlt
      obtain ⟨av, cv, rfl, -⟩ := hr.slice
      have hst := offs_succ ps k hlt
      have hbd := HPB.out k hlt
      obtain ⟨m, hm⟩ : ∃ m, m = ps[k].length := ⟨_, rfl⟩
      rw [← hm] at hst hbd hc
      obtain ⟨q, hq⟩ : ∃ q, q = offs ps k := ⟨_, rfl⟩
      obtain ⟨q2, hq2⟩ : ∃ q2, q2 = offs ps (k + 1) := ⟨_, rfl⟩
      rw [← hq, ← hq2] at hst
      rw [← hq] at hok ⊢
      have HQ2 := hide hq2
      have hsum : (q : Int) + (m : Int) + 10 = (q2 : Int) := by omega
      have hqb : (q : Int) ≤ 67108864 := by omega
      have hmb : (m : Int) ≤ 140737488355328 := by omega
      clear hr hm hq hq2 hst
      by_cases hbig : 67108864 < q2
      · have hbi : (67108864 : Int) < (q2 : Int) := by omega
        go_wp2_with fail
        refine (works_any w1).mono ?_
        rintro e w2 ⟨rfl, hb2⟩
        have hz2 := HZ1.out.below hb2 HZ1.out.lt
        have hzc := hz2.cell 0
        have hzf := hz2.frozen 0
        have HB2 := hide (Below.step HB1.out hb2)
        have HZ2 := hide hz2
        clear hb2 hz2
        go_wp2
        refine ⟨_, results_cell (p := 2) (ty := 4) rfl _ _ ⟨w.heap.size + 1, 0, none⟩ rfl (.bool true) (load_bool ((HZ2.out.set 0 (.bool true)).cell 0)), ?_⟩
        exact ⟨rfl, HB2.out.setCell (by simp) _⟩
      · have hbi : ¬ (67108864 : Int) < (q2 : Int) := by omega
        go_wp2
        refine ⟨⟨k + 1, by rw [← HQ2.out], by go_num, by omega, by rw [← HQ2.out]; omega, by trivial⟩, by simp [intOf]; omega⟩
    · have hki : ¬ (k : Int) < ps.length := by omega
      obtain rfl : k = ps.length := by omega
      have HTOT := hide hok
      have HK10 : Hid (ps.length ≤ 6710886) := hide (by have := offs_ten ps ps.length (Nat.le_refl _); omega)
      have HOB : Hid (∀ j, j ≤ ps.length → offs ps j ≤ 67108864) := hide (fun j hj => Nat.le_trans (offs_le ps (ps.length - j) j (by omega)) HTOT.out)
      have HB2 := hide ((Below.refl w1.heap.size w1).alloc (Nat.le_refl _) (.cells #[.slice none 0 0] 34))
      have HST0 : Hid (RowSt w (w1.alloc (.cells #[.slice none 0 0] 34)) w1.heap.size #[.slice ap ps.length c, .slice ao hd.length ca] ps 0 (.slice none 0 0) (.slice none 0 0) (.slice none 0 0)) := hide
        ⟨World.ownsRow_nil _ _ _ _, Blk.made w1 _ _, World.ownsRow_nil _ _ _ _, World.ownsRow_nil _ _ _ _, (fun g e => by cases e), HX1.out.below HB2.out HX1.out.lt, HZ1.out.below HB2.out HZ1.out.lt, Below.step HB1.out HB2.out⟩
      have HZ6 : Hid (w.heap.size + 1 < w1.heap.size) := hide HZ1.out.lt
      clear hok hk hlt
      go_wp2
      go_loopw [5, 7, 8] (fun va vs i wr => ∃ (ua us ut : Value) (k : Nat), ua = va ∧ us = vs ∧ i = .int .i64 k ∧ k ≤ ps.length ∧ AllOk ps k ∧ RowSt w wr w1.heap.size #[.slice ap ps.length c, .slice ao hd.length ca] ps k ua ut us) (fun _ _ i _ => ps.length - (intOf i).toNat)
      case atStart => exact ⟨_, _, _, 0, rfl, rfl, rfl, by omega, (fun j h hj => absurd hj (by omega)), HST0.out⟩
      case round =>
        clear HST0 HB2
        obtain ⟨va, vs, vt, k, rfl, rfl, rfl, hk, hall, hS⟩ := hrel
        obtain ⟨aa, caa, rfl, -, -⟩ := hS.all.slice
        obtain ⟨as', cas, rfl, -⟩ := hS.sz.form
        obtain ⟨at', cat, rfl, -⟩ := hS.at'.form
        rw [ats_len, szs_len] at hS
        rw [szs_len]
        have hrl : (recL (ps.take k)).length = offs ps k := rfl
        rw [hrl] at hS ⊢
        have hq0 : wr.cell? ⟨w.heap.size, 0, none⟩ = some (.slice ap ps.length c) := hS.row.cell 0
        by_cases hlt : k < ps.length
        · have hki : (k : Int) < ps.length := by omega
          obtain ⟨b, o, v, rfl, hc, hr⟩ := (HP.out.below hS.bel) k hlt
          obtain ⟨av, cv, rfl, -⟩ := hr.slice
          have HPK := hide (pack_any wr _ ps[k] hr)
          have HSt := hide hS
          have HALL := hide hall
          have HSZ := hide (szs_succ ps k hlt)
          have HAT := hide (ats_succ ps k)
          have HRC := hide (recL_snoc ps k hlt)
          have hob := HOB.out k hk
          have HOF := hide (offs_succ ps k hlt)
          obtain ⟨m, hm⟩ : ∃ m, m = ps[k].length := ⟨_, rfl⟩
          obtain ⟨q, hq⟩ : ∃ q, q = offs ps k := ⟨_, rfl⟩
          have HM := hide hm
          have HQ := hide hq
          rw [← hm] at hc HPK HSZ
          rw [← hq] at hob HSt HAT ⊢
          clear hr hm hq hS hall hrl
          by_cases hbig : m ≤ 65526
          · have hbi : (m : Int) ≤ 65526 := by omega
            go_wp2_with fail
            refine HPK.out.mono ?_
            rintro e w2 ⟨v2, rfl, hO2, hb2⟩
            rw [show packE ps[k] = 0 from if_pos (by rw [← HM.out]; exact hbig)]
            rw [show packR ps[k] = packL ps[k] from if_pos (by rw [← HM.out]; exact hbig)] at hO2
            obtain ⟨a2, c2, rfl, -, -⟩ := hO2.slice
            rw [packL_len, ← HM.out] at hO2 ⊢
            obtain ⟨ml, hml⟩ : ∃ ml, ml = 10 + m := ⟨_, rfl⟩
            rw [← hml] at hO2 ⊢
            have hmi : (m : Int) + 10 = (ml : Int) := by omega
            have hmlb : ml ≤ 65536 := by omega
            have HML := hide hml
            have hS2 := HSt.out.below hb2
            have hq2 : w2.cell? ⟨w.heap.size, 0, none⟩ = some (.slice (some ⟨b, o, none⟩) ps.length c) := hS2.row.cell 0
            have hc2 : w2.cell? ⟨b, o + k, none⟩ = some (.slice av m cv) := (hb2.cell (World.block_lt_of_cell? wr _ hc)).trans hc
            have hq6 : w2.cell? ⟨w1.heap.size, 0, none⟩ = some (.slice at' k cat) := hS2.box.cell 0
            have HO2 := hide hO2
            have HS2 := hide (hS2.below ((Below.refl _ _).alloc (Nat.le_refl _) (.cells #[.int .i64 (q : Int)] 3)))
            have HO2a := hide (hO2.below ((Below.refl _ _).alloc (Nat.le_refl _) (.cells #[.int .i64 (q : Int)] 3)))
            have HBW := hide hb2.size
            have HWZ := hide hS2.bel.size
            clear hb2 hO2 hS2 HSt HPK hc hq0 hml
            have HC1 : Hid ((w2.alloc (.cells #[.int .i64 (q : Int)] 3)).cell? ⟨w2.heap.size, 0, none⟩ = some (.int .i64 (q : Int))) := hide ((Blk.made w2 _ _).cell 0)
            have HC2 : Hid ((ats ps k).length + 1 ≤ 17592186044000) := hide (by rw [ats_len]; have := HK10.out; omega)
            have HC3 : Hid (w.heap.size ≤ (w2.alloc (.cells #[.int .i64 (q : Int)] 3)).heap.size) := hide (by have := HWZ.out; simp; omega)
            go_wp2_with (at_builtin; refine wpList_append_int rfl _ _ rfl w.heap.size _ (ats ps k) rfl HS2.out.at' w2.heap.size 1 rfl (q : Int) (q : Int) rfl HC1.out HC2.out HC3.out ?_; intro vt' w3 HT' HG3 HL3; generalize hG : wpList _ _ _ _ _ _ = G)
            clear HC1 HC2 HC3
            obtain ⟨p1, p2, p3, p4, p5, p6, p7⟩ := HS2.out.place HG3.out HL3.out (by have := HZ6.out; omega)
            have HO3 := hide (OwnsB.grown HO2a.out HG3.out (fun g e1 e2 => own_own_ne HS2.out.at' HO2a.out (by decide) g e2.symm e1))
            obtain ⟨at3, cat3, rfl, -⟩ := HT'.out.form
            rw [List.length_append, ats_len, List.length_singleton] at HT' hG p4
            have hz6 := p2.cell 0
            have hz6f := p2.frozen 0
            have hne6 : w.heap.size ≠ w1.heap.size ∧ w.heap.size + 1 ≠ w1.heap.size := by have := HZ6.out; omega
            have HT4 := hide (OwnsI.grown HT'.out (grownBy_set w3 w1.heap.size 0 (.slice at3 (k + 1) cat3)) (fun g e1 e2 => blk_own_ne p2 HT'.out (by decide) g e1 (Option.some.inj e2)))
            have HA4 := hide (OwnsB.grown p1 (grownBy_set w3 w1.heap.size 0 (.slice at3 (k + 1) cat3)) (fun g e1 e2 => blk_own_ne p2 p1 (by decide) g e1 (Option.some.inj e2)))
            have HO4 := hide (OwnsB.grown HO3.out (grownBy_set w3 w1.heap.size 0 (.slice at3 (k + 1) cat3)) (fun g e1 e2 => blk_own_ne p2 HO3.out (by decide) g e1 (Option.some.inj e2)))
            have HZ4 := hide (OwnsI.grown p3 (grownBy_set w3 w1.heap.size 0 (.slice at3 (k + 1) cat3)) (fun g e1 e2 => blk_own_ne p2 p3 (by decide) g e1 (Option.some.inj e2)))
            have HX4 := hide (p2.set 0 (.slice at3 (k + 1) cat3))
            have HR4 := hide (p5.setOther ⟨w1.heap.size, 0, none⟩ (.slice at3 (k + 1) cat3) hne6.1)
            have HE4 := hide (p6.setOther ⟨w1.heap.size, 0, none⟩ (.slice at3 (k + 1) cat3) hne6.2)
            have HB4 := hide (p7.setCell (p := ⟨w1.heap.size, 0, none⟩) (by have := HZ6.out; simp; omega) (.slice at3 (k + 1) cat3))
            have HP4 := hide p4
            obtain ⟨w4, hw4⟩ : ∃ w4, w4 = w3.setCell ⟨w1.heap.size, 0, none⟩ (.slice at3 (k + 1) cat3) := ⟨_, rfl⟩
            have hw4' := hw4.symm
            rw [← hw4] at HT4 HA4 HO4 HZ4 HX4 HR4 HE4 HB4
            clear p1 p2 p3 p4 p5 p6 p7 HS2 HO2a HO2 HO3 HT' HG3 HL3 hw4 hq2 hc2 hq6 hne6
            subst hG
            have hbA := (Below.refl w4.heap.size w4).alloc (Nat.le_refl _) (.cells #[.int .i64 (ml : Int)] 3)
            have HT5 := hide (HT4.out.below hbA)
            have HA5 := hide (HA4.out.below hbA)
            have HO5 := hide (HO4.out.below hbA)
            have HZ5 := hide (HZ4.out.below hbA)
            have HX5 := hide (HX4.out.below hbA HX4.out.lt)
            have HR5 := hide (HR4.out.below hbA HR4.out.lt)
            have HE5 := hide (HE4.out.below hbA HE4.out.lt)
            have HB5 := hide (Below.step HB4.out hbA)
            have HC1 : Hid ((w4.alloc (.cells #[.int .i64 (ml : Int)] 3)).cell? ⟨w4.heap.size, 0, none⟩ = some (.int .i64 (ml : Int))) := hide ((Blk.made w4 _ _).cell 0)
            have HC2 : Hid ((szs ps k).length + 1 ≤ 17592186044000) := hide (by rw [szs_len]; have := HK10.out; omega)
            have HC3 : Hid (w.heap.size ≤ (w4.alloc (.cells #[.int .i64 (ml : Int)] 3)).heap.size) := hide HB5.out.size
            clear hbA HT4 HA4 HO4 HZ4 HX4 HR4 HE4 HB4
            go_wp2_with (at_builtin; refine wpList_append_int rfl _ _ rfl w.heap.size _ (szs ps k) rfl HZ5.out w4.heap.size 1 rfl (ml : Int) (ml : Int) rfl HC1.out HC2.out HC3.out ?_; intro vs' w5 HS5 HG5 HL5; generalize hG : wpList _ _ _ _ _ _ = G)
            clear HC1 HC2 HC3 hw4'
            have hT6 := HT5.out.grown HG5.out (fun g e1 e2 => HP4.out g e1 e2.symm)
            have hA6 := HA5.out.grown HG5.out (fun g e1 e2 => own_own_ne HZ5.out HA5.out (by decide) g e2.symm e1)
            have hO6 := HO5.out.grown HG5.out (fun g e1 e2 => own_own_ne HZ5.out HO5.out (by decide) g e2.symm e1)
            have hX6 := HX5.out.grown HG5.out (fun e => blk_own_ne HX5.out HZ5.out (by decide) _ e.symm rfl)
            have hR6 := HR5.out.grown HG5.out (fun e => blk_own_ne HR5.out HZ5.out (by decide) _ e.symm rfl)
            have hE6 := HE5.out.grown HG5.out (fun e => blk_own_ne HE5.out HZ5.out (by decide) _ e.symm rfl)
            have hB6 : Below w.heap.size w w5 := own_below HB5.out HZ5.out HB5.out.size HG5.out
            have hap : ∀ g, (Value.slice at3 (k + 1) cat3).ownBlock = some g → vs'.ownBlock ≠ some g := by
              intro g e1 e2
              rcases HL5.out with e | e
              · exact HP4.out g e1 (e ▸ e2)
              · rw [e] at e2
                have hb := (owns_lt HT5.out g e1).2
                have := Option.some.inj e2
                omega
            obtain ⟨as5, cas5, rfl, -⟩ := HS5.out.form
            rw [List.length_append, szs_len, List.length_singleton] at HS5 hap hG
            have HJ := hide (joined_any w5 _ _ _ _ hA6.rd hO6.rd (by rw [show (recL (ps.take k)).length = offs ps k from rfl, ← HQ.out, packL_len, ← HM.out]; omega))
            have HT6 := hide hT6
            have HX6 := hide hX6
            have HR6 := hide hR6
            have HE6 := hide hE6
            have HB6 := hide hB6
            have HAP := hide hap
            clear hT6 hA6 hO6 hX6 hR6 hE6 hB6 hap HT5 HA5 HO5 HZ5 HX5 HR5 HE5 HB5 HG5 HL5 HP4
            subst hG
            go_wp2_with fail
            refine HJ.out.mono ?_
            rintro e w6 ⟨v6, rfl, hO6, hb6⟩
            have HFin : Hid (RowSt w w6 w1.heap.size #[.slice (some ⟨b, o, none⟩) ps.length c, .slice ao hd.length ca] ps (k + 1) v6 (.slice at3 (k + 1) cat3) (.slice as5 (k + 1) cas5)) := by
              refine ⟨?_, HX6.out.below hb6 HX6.out.lt, ?_, ?_, HAP.out, HR6.out.below hb6 HR6.out.lt, HE6.out.below hb6 HE6.out.lt, Below.step HB6.out hb6⟩
              · rw [HRC.out]; exact own_base hO6 HB6.out.size
              · rw [HAT.out]; exact HT6.out.below hb6
              · rw [HSZ.out]
                have h := HS5.out.below hb6
                rw [HML.out, Nat.add_comm 10 m] at h
                exact h
            have HALL2 : Hid (AllOk ps (k + 1)) := hide (fun j h hj => by
              by_cases e : j = k
              · subst e; rw [← HM.out]; exact hbig
              · exact HALL.out j h (by omega))
            clear hO6 hb6 HJ HT6 HX6 HR6 HE6 HB6 HAP HS5
            go_wp2
            exact ⟨⟨_, _, _, k + 1, rfl, rfl, by go_num, by omega, HALL2.out, HFin.out⟩, by simp [intOf]; omega⟩
          · have hbi : ¬ (m : Int) ≤ 65526 := by omega
            go_wp2_with fail
            refine HPK.out.mono ?_
            rintro e w2 ⟨v2, rfl, hO2, hb2⟩
            rw [show packE ps[k] = 60 from if_neg (by rw [← HM.out]; exact hbig)]
            rw [show packR ps[k] = [] from if_neg (by rw [← HM.out]; exact hbig)] at hO2
            obtain ⟨a2, c2, rfl, -, -⟩ := hO2.slice
            rw [List.length_nil]
            have hS2 := HSt.out.below hb2
            have hq2 : w2.cell? ⟨w.heap.size, 0, none⟩ = some (.slice (some ⟨b, o, none⟩) ps.length c) := hS2.row.cell 0
            have hc2 : w2.cell? ⟨b, o + k, none⟩ = some (.slice av m cv) := (hb2.cell (World.block_lt_of_cell? wr _ hc)).trans hc
            have hzc := hS2.res.cell 0
            have hzf := hS2.res.frozen 0
            have HZ2 := hide hS2.res
            have HB2 := hide hS2.bel
            clear hb2 hO2 hS2 HSt HPK hc hq0
            go_wp2
            refine ⟨_, results_cell (p := 2) (ty := 4) rfl _ _ ⟨w.heap.size + 1, 0, none⟩ rfl (.bool true) (load_bool ((HZ2.out.set 0 (.bool true)).cell 0)), ?_⟩
            exact ⟨rfl, HB2.out.setCell (by simp) _⟩
        · have hki : ¬ (k : Int) < ps.length := by omega
          obtain rfl : k = ps.length := by omega
          have hall' : AllOk ps ps.length := hall
          have hfull : recL (ps.take ps.length) = recL ps := by rw [List.take_length]
          have hS' := hS
          have hoq := offs_all ps
          have HEnd := hide (end_any wr _ _ hS.all.rd (by rw [hfull, ← hoq]; have := HTOT.out; omega))
          rw [hfull] at HEnd
          have HOK := hide hall'
          have HS := hide hS
          obtain ⟨q, hq⟩ : ∃ q, q = offs ps ps.length := ⟨_, rfl⟩
          have HQ := hide hq
          rw [← hq] at HEnd HS ⊢
          have hqb : q ≤ 67108864 := by rw [hq]; exact HTOT.out
          clear hS hS' hall hall' hoq hfull hrl hq hk hlt
          go_wp2_with fail
          refine HEnd.out.mono ?_
          rintro e w2 ⟨kk, hk1, hk2, rfl, hb2⟩
          obtain rfl := rec_count ps HOK.out kk hk1 hk2
          rw [rec_endE ps HOK.out, plc_offs ps HOK.out _ (Nat.le_refl _), ← HQ.out]
          have HS2 := hide (HS.out.below hb2)
          have HW2 := hide hb2.size
          clear hk1 hk2 hb2 HEnd HS hq0
          have HB3 := hide ((Below.refl w2.heap.size w2).alloc (Nat.le_refl _) (.cells #[.int .i64 0] 3))
          have HS3 := hide (HS2.out.below HB3.out)
          have HK3 := hide (Blk.made w2 #[.int .i64 0] 3)
          have HAll : Hid (Calls Try.prog 18 #[.slice aa q caa] (w2.alloc (.cells #[.int .i64 0] 3)) (AllC (w2.alloc (.cells #[.int .i64 0] 3)) (recL ps))) := hide (all_any _ _ _ (by
            have h := HS3.out.all.rd
            rw [List.take_length] at h
            exact h) (by rw [← offs_all, ← HQ.out]; omega))
          go_wp2_with fail
          refine HAll.out.mono ?_
          rintro e w4 ⟨z, v1, rfl, hz, hr1, hzl, hb4⟩
          have HS4 := hide (HS3.out.below hb4)
          have HWL : Hid (w1.heap.size < w2.heap.size) := hide HS2.out.box.lt
          have HIT : Hid (∀ g, (Value.slice at' ps.length cat).ownBlock = some g → g < w2.heap.size) := hide (fun g e => (owns_lt HS2.out.at' g e).2)
          have HIS : Hid (∀ g, (Value.slice as' ps.length cas).ownBlock = some g → g < w2.heap.size) := hide (fun g e => (owns_lt HS2.out.sz g e).2)
          have HK4 := hide (HK3.out.below hb4 HK3.out.lt)
          have HZ := hide hz
          have HR1 : Hid (OwnsB w4 (w2.heap.size + 1) v1 (recL ps)) := hide (by simpa using hr1)
          have HZL : Hid (w2.heap.size + 1 ≤ z) := hide (by simpa using hzl)
          have hfn := funcNotNil z
          have hfg := funcGuard z
          clear hz hr1 hzl hb4 HAll HS2 HS3 HB3 HK3
          unfold allV
          go_wp2
          clear hfn hfg
          have HI1 : Hid (∀ g, (Value.slice at' ps.length cat).ownBlock = some g → g < w2.heap.size) := HIT
          have HI2 : Hid (∀ g, (Value.slice as' ps.length cas).ownBlock = some g → g < w2.heap.size) := HIS
          refine (wpIn_wide (n := 5)).1 ?_
          refine wpIn_rangeFit rfl (by omega) (gf := 34) (lb := #[.pointer (some ⟨z, 0, none⟩)]) rfl trivial (enters_of Try.func34 (by kernel_rfl) rfl) (all_fit (5 - 1) w4 z (w2.heap.size + 1) v1 (recL ps) HZ.out HZL.out HR1.out) (Below.refl _ _) (Nat.le_refl _) (fun _ => rfl) (allFit_put (recL ps))
            (fun pre W => Blk W w2.heap.size #[.int .i64 ((pre.length : Nat) : Int)] 3 ∧ RowSt w W w1.heap.size #[.slice ap ps.length c, .slice ao hd.length ca] ps ps.length (.slice aa q caa) (.slice at' ps.length cat) (.slice as' ps.length cas) ∧ w4.heap.size ≤ W.heap.size) (fun _ _ _ => False)
            (OwnFrom.and (blk_ownFrom _ _ _ (fun pre : List Rec => #[.int .i64 ((pre.length : Nat) : Int)])) (OwnFrom.and (RowSt.ownFrom HS4.out.bel.size) (fun s A C row hs hg hr => Nat.le_trans hs hg.size)))
            (fun _ _ _ _ _ hs _ _ => hs) ⟨HK4.out, HS4.out, Nat.le_refl _⟩ ?round ?done ?stop
          case round =>
            rintro l pre ⟨pq, bd, vx⟩ Wp W ⟨hkp, hSp, hW4⟩ hbW ⟨f1, f2, f3, f4⟩
            have hIW : w4.heap.size ≤ W.heap.size := Nat.le_trans hW4 hbW.size
            dsimp only at f2 f3 f4
            have hj : pre.length < ps.length := by
              refine Nat.lt_of_not_le fun h => rec_end ps HOK.out (f1 _ h)
            rw [plc_offs ps HOK.out _ (by omega)] at f2
            rw [rec_body ps HOK.out _ hj] at f3
            subst f3
            obtain ⟨vx1, cx1, rfl, -, -⟩ := f4.slice
            have hSW := hSp.below hbW
            have hkW := hkp.below hbW hkp.lt
            obtain ⟨at0, ct0, e0, g0⟩ := hSW.at'.form
            obtain ⟨gt, rfl⟩ := g0 (by rw [ats_len]; omega)
            obtain ⟨e1, -, -⟩ := (Value.slice.injEq ..).mp e0
            subst e1
            have hca := hSW.at'.at pre.length (by rw [ats_len]; exact hj)
            rw [ats_at ps _ _ hj, ← f2] at hca
            have hc13 : W.cell? ⟨w2.heap.size, 0, none⟩ = some (.int .i64 ((pre.length : Nat) : Int)) := hkW.cell 0
            have hf13 := hkW.frozen 0
            have hc6 : W.cell? ⟨w1.heap.size, 0, none⟩ = some (.slice (some ⟨gt, 0, none⟩) ps.length cat) := hSW.box.cell 0
            have hc0 : W.cell? ⟨w.heap.size, 0, none⟩ = some (.slice ap ps.length c) := hSW.row.cell 0
            obtain ⟨b, o, vb, rfl, hcb, hrb⟩ := (HP.out.below hSW.bel) pre.length hj
            obtain ⟨av, cv, rfl, -⟩ := hrb.slice
            have HSame := hide (same_any W _ _ ps[pre.length] f4.rd hrb)
            have HSW := hide hSW
            have HKW := hide hkW
            have hji : ¬ (ps.length : Int) ≤ ((pre.length : Nat) : Int) := by omega
            obtain ⟨j, hjj⟩ : ∃ j, j = pre.length := ⟨_, rfl⟩
            obtain ⟨m, hm⟩ : ∃ m, m = ps[pre.length].length := ⟨_, rfl⟩
            have HJJ := hide hjj
            rw [← hm] at hcb HSame ⊢
            rw [← hjj] at hca hc13 hcb hji HKW
            have hjb : (j : Int) ≤ 6710886 := by have := HK10.out; omega
            have hjl : (j : Int) < (ps.length : Int) := by omega
            clear f1 f2 f4 e0 g0 hkp hSp hbW hSW hkW hrb hm hjj
            have HIW : Hid (w4.heap.size ≤ W.heap.size) := hide hIW
            refine ⟨?a1, ?asg, ?bd⟩
            case asg =>
              intro W0 K hK
              refine asg2 (x1 := .tmp 116) (x2 := .tmp 117) rfl rfl rfl rfl _ W0 K ?_
              exact hK
            case bd =>
              unfold recV
              simp only [List.zip_toArray, List.zip_cons_cons, List.zip_nil_right, List.foldl_toArray, List.foldl_cons, List.foldl_nil, List.setIfInBounds_toArray, List.set_cons_succ, List.set_cons_zero, Act.put, Act.eval]
              gi_wp2
              refine ⟨trivial, ?_⟩
              refine (CallsIn.inRound l (callsIn_wide.2 HSame.out)).mono ?_
              rintro e w5 ⟨rfl, hb5⟩
              have hk5 := HKW.out.below hb5 HKW.out.lt
              have hc5 : w5.cell? ⟨w2.heap.size, 0, none⟩ = some (.int .i64 (j : Int)) := hk5.cell 0
              have hf5 := hk5.frozen 0
              have hS5 := HSW.out.below hb5
              have HK6 := hide (hk5.set 0 (.int .i64 ((j : Int) + 1)))
              have HS6 := hide (hS5.setBox (v := .int .i64 ((j : Int) + 1)) hk5 (by have := HZ6.out; have := HWL.out; omega) HZ6.out (fun g e => Nat.ne_of_lt (HI1.out g e)) (fun g e => Nat.ne_of_lt (HI2.out g e)))
              have HKp : Hid (KeepR (w2.heap.size + 1) w4.heap.size W w5) := hide (KeepR.below hb5 (Nat.le_trans HIW.out (Nat.le_refl _)))
              have HIX : Hid (w4.heap.size ≤ (w5.setCell ⟨w2.heap.size, 0, none⟩ (.int .i64 ((j : Int) + 1))).heap.size) := hide (by have := HIW.out; have := hb5.size; simp; omega)
              have HKo : Hid (KeepsOthers W w5) := hide (KeepsOthers.of_grownBy (grownBy_below hb5 (row := none)) (fun _ _ e => by cases e))
              clear hb5 hk5 hS5 HSame hca hcb hc0 hc6 hc13 hf13
              gi_wp2
              refine ⟨HKo.out.trans (KeepsOthers.setCell _ _ _), HKp.out.trans (KeepR.setCell _ _ _ (.inl (Nat.lt_succ_self _))), ?_, HS6.out, HIX.out⟩
              rw [snoc_len, ← HJJ.out]
              exact HK6.out
          case done =>
            rintro D xs W hD ⟨hs1, hs2⟩ ⟨hkW, hSW, _⟩ hK
            have hxl := rec_count ps HOK.out xs.length hs1 hs2
            rw [hxl] at hkW
            have hc13 : W.cell? ⟨w2.heap.size, 0, none⟩ = some (.int .i64 ((ps.length : Nat) : Int)) := hkW.cell 0
            have hc0 : W.cell? ⟨w.heap.size, 1, none⟩ = some (.slice ao hd.length ca) := hSW.row.cell 1
            have HJ := hide (joined_any W _ _ hd (recL ps) (HA.out.below hSW.bel) (by
              have h := hSW.all.rd
              rw [List.take_length] at h
              exact h) (by rw [← offs_all, ← HQ.out]; omega))
            have HSW := hide hSW
            have HKW := hide hkW
            have HKD := hide hK
            have HDD : Hid (w2.heap.size < D) := hide (Nat.lt_of_lt_of_le HK4.out.lt hD)
            clear hs1 hs2 hxl hkW hSW hK hD
            go_wp2_with fail
            refine HJ.out.mono ?_
            rintro e w5 ⟨v5, rfl, hO5, hb5⟩
            obtain ⟨a5, c5, rfl, -, -⟩ := hO5.slice
            have HO5 := hide hO5.rd
            have HS5 := hide (HSW.out.below hb5)
            have HK5 := hide (HKW.out.below hb5 HKW.out.lt)
            have HD5 := hide (heap_grows hb5 HKD.out)
            have hjl : (hd ++ recL ps).length = hd.length + q := by rw [List.length_append, ← offs_all, ← HQ.out]
            rw [hjl] at HO5 ⊢
            clear hO5 hb5 HJ HSW HKW HKD hc13 hc0 hjl
            go_wp2
            go_loopw [18] (fun i wr => ∃ j : Nat, i = .int .i64 j ∧ j ≤ ps.length ∧ Below w5.heap.size w5 wr) (fun i _ => ps.length - (intOf i).toNat)
            case atStart => exact ⟨0, rfl, by omega, Below.refl _ _⟩
            case round =>
              obtain ⟨j, rfl, hj, hbel⟩ := hrel
              have hSr := HS5.out.below hbel
              have hc6 : wr.cell? ⟨w1.heap.size, 0, none⟩ = some (.slice at' ps.length cat) := hSr.box.cell 0
              by_cases hlt : j < ps.length
              · have hji : (j : Int) < (ps.length : Int) := by omega
                obtain ⟨at0, ct0, e0, g0⟩ := hSr.at'.form
                obtain ⟨gt, rfl⟩ := g0 (by rw [ats_len]; omega)
                obtain ⟨e1, -, -⟩ := (Value.slice.injEq ..).mp e0
                subst e1
                obtain ⟨as0, cs0, e0', g0'⟩ := hSr.sz.form
                obtain ⟨gs, rfl⟩ := g0' (by rw [szs_len]; omega)
                obtain ⟨e1, -, -⟩ := (Value.slice.injEq ..).mp e0'
                subst e1
                have hca := hSr.at'.at j (by rw [ats_len]; exact hlt)
                rw [ats_at ps _ _ hlt] at hca
                have hcs := hSr.sz.at j (by rw [szs_len]; exact hlt)
                rw [szs_at ps _ _ hlt (Nat.le_refl _)] at hcs
                have hc1 : wr.cell? ⟨w.heap.size, 1, none⟩ = some (.slice ao hd.length ca) := hSr.row.cell 1
                have hc0 : wr.cell? ⟨w.heap.size, 0, none⟩ = some (.slice ap ps.length c) := hSr.row.cell 0
                obtain ⟨b, o, vb, rfl, hcb, hrb⟩ := (HP.out.below hSr.bel) j hlt
                obtain ⟨av, cv, rfl, -⟩ := hrb.slice
                have hob := HOB.out j hj
                have hul := HPB.out j hlt
                have hok1 := HOK.out j hlt hlt
                have HU : Hid (Calls Try.prog 20 #[.slice a5 (hd.length + q) c5, .int .i64 ((hd.length + offs ps j : Nat) : Int)] wr.drew (UnpackC wr.drew (ps[j], 10 + ps[j].length, 0))) := by
                  have h := unpack_any wr.drew (.slice a5 (hd.length + q) c5) (hd ++ recL ps) ((HO5.out.below hbel).below (drewR (Below.refl _ _))) ((hd.length + offs ps j : Nat) : Int) (by omega)
                  rw [rec_behind hd ps HOK.out j hlt] at h
                  exact h
                have HRB := hide hrb
                obtain ⟨m, hm⟩ : ∃ m, m = ps[j].length := ⟨_, rfl⟩
                have HM := hide hm
                rw [← hm] at hcs hcb hok1 HU HRB
                obtain ⟨oj, hoj⟩ : ∃ oj, oj = offs ps j := ⟨_, rfl⟩
                rw [← hoj] at hca HU hob
                obtain ⟨pos, hpos⟩ : ∃ pos, pos = hd.length + oj := ⟨_, rfl⟩
                have hpi : (hd.length : Int) + (oj : Int) = (pos : Int) := by omega
                rw [← hpos] at HU
                obtain ⟨ml, hml⟩ : ∃ ml, ml = m + 10 := ⟨_, rfl⟩
                rw [← hml] at hcs
                rw [show 10 + m = ml from by omega] at HU
                have HBr := hide hbel
                clear hm hoj hpos hml e0 g0 e0' g0' hrb hbel
                go_wp2
                have hpw : IntKind.i64.wrap ((hd.length : Int) + (oj : Int)) = (pos : Int) := by rw [hpi]; exact wrapi64_nat pos (by omega)
                refine wp_mono (Q := fun e a w => e = .normal ∧ _) ?_ (fun e a w h => by obtain ⟨rfl, h⟩ := h; exact h)
                refine rw_walk _ (fun _ _ _ _ _ h => nomatch h.1) wr w.heap.size w1.heap.size gt (hd.length + q) c5 hd.length ca ps.length cat j oj pos ml a5 ao ps[j] ⟨hc1, hc6, hca⟩ hji hpw HU.out _ (Nat.lt_of_sub_pos (by exact Nat.succ_pos _)) rfl rfl rfl rfl ?_
                intro v6 w6 hO6 hb6
                refine ⟨rfl, ?_⟩
                simp only [Act.put, List.setIfInBounds_toArray, List.set_cons_zero, List.set_cons_succ]
                obtain ⟨ao6, c6, rfl, -, -⟩ := hO6.slice
                rw [← HM.out] at hO6 ⊢
                have hcs6 := (hb6.cell (World.block_lt_of_cell? wr _ hcs)).trans hcs
                have hc06 := (hb6.cell (World.block_lt_of_cell? wr _ hc0)).trans hc0
                have hcb6 := (hb6.cell (World.block_lt_of_cell? wr _ hcb)).trans hcb
                have HSm := hide (same_any w6 _ _ ps[j] hO6.rd (HRB.out.below hb6))
                have HB6 := hide (Below.step HBr.out hb6)
                clear hO6 hb6 hcs hc0 hcb hc1 hc6 hca HU HRB HBr hpw hpi
                go_wp2_with fail
                refine HSm.out.mono ?_
                rintro e w7 ⟨rfl, hb7⟩
                have HB7 := hide (Below.step HB6.out hb7)
                clear hb7 HSm HB6 hcs6 hc06 hcb6
                go_wp2
                exact ⟨⟨j + 1, by go_num, by omega, HB7.out⟩, by simp [intOf]; omega⟩
              · have hji : ¬ (j : Int) < (ps.length : Int) := by omega
                have hc13 : wr.cell? ⟨w2.heap.size, 0, none⟩ = some (.int .i64 ((ps.length : Nat) : Int)) := (HK5.out.below hbel HK5.out.lt).cell 0
                have hkk : (((ps.length : Nat) : Int) == ((ps.length : Nat) : Int)) = true := beq_self_eq_true _
                have HSr := hide hSr
                have HDr := hide (heap_grows hbel HD5.out)
                clear hSr hbel
                go_wp2_with fail
                refine (works_any wr).mono ?_
                rintro e w6 ⟨rfl, hb6⟩
                have hS6 := HSr.out.below hb6
                have hzc := hS6.res.cell 0
                have hzf := hS6.res.frozen 0
                have HZ6r := hide (hS6.res.set 0 (.bool true))
                have HB6 : Hid (Below w.heap.size w (w6.setCell ⟨w.heap.size + 1, 0, none⟩ (.bool true))) := hide (hS6.bel.setCell (by simp) _)
                have HD6 : Hid ((w6.setCell ⟨w.heap.size + 1, 0, none⟩ (.bool true)).heap[D]? = some (.deferred (some []))) := hide ((KeepsOthers.setCell _ _ _).same D _ (heap_grows hb6 HDr.out) rfl)
                have hDne : w.heap.size + 1 ≠ D := by have := HZ6.out; have := HWL.out; have := HDD.out; omega
                have HZ7 : Hid (Blk ((w6.setCell ⟨w.heap.size + 1, 0, none⟩ (.bool true)).putObj D (.deferred none)) (w.heap.size + 1) (#[Value.bool false].setIfInBounds 0 (.bool true)) 4) := hide ((World.putObj_heap_other hDne).trans HZ6r.out)
                clear hb6 hS6 HSr HDr
                go_wp2
                refine ⟨by simp, .inl ⟨_, _, rfl, run_takeDeferred HD6.out, ?_⟩⟩
                refine ⟨_, results_cell (p := 2) (ty := 4) rfl _ _ ⟨w.heap.size + 1, 0, none⟩ rfl (.bool true) (load_bool (HZ7.out.cell 0)), ?_⟩
                exact ⟨rfl, below_put HB6.out D _ (by have := HZ6.out; have := HWL.out; have := HDD.out; omega)⟩
          case stop =>
            rintro D c pre W _ h _
            exact h.elim
end Go.Proofs.Ytbnedlcldfpfdaa
