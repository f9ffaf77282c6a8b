/- Rows of keys; the law's below, among. -/
import Derived.Test.YtdigjpddmfolgaaICn
import Derived.Maps.AppendAt
import Derived.Test.YtdigjpddmfolgaaIEm
import Derived.Test.YtdigjpddmfolgaaIMm
import Derived.Test.YtdigjpddmfolgaaXW
namespace Go.Proofs.Ytdigjpddmfolgaa
set_option linter.unusedVariables false
set_option linter.unusedSimpArgs false
namespace TX
open Go.RowKit Go.Sort
set_option maxRecDepth 100000

abbrev KST : TypeId := 51
/-- Keys that a slice tells. -/
def KsR (w : World) (v : Value) (L : List KY) : Prop := ∃ ao c, v = .slice ao L.length c ∧ (0 < L.length → ∃ h so, ao = some ⟨h, so, none⟩ ∧ ∀ j x, L[j]? = some x → w.rangeAt h (so + j * 32) (kC x))
theorem KsR.nil (w : World) : KsR w (.slice none 0 0) [] := ⟨none, 0, rfl, fun h => absurd h (by decide)⟩
theorem KsR.below {w w' : World} {v : Value} {L : List KY} (h : KsR w v L) (hb : Below w.heap.size w w') : KsR w' v L := by
  obtain ⟨ao, c, e, hr⟩ := h
  refine ⟨ao, c, e, fun hp => ?_⟩
  obtain ⟨h0, so, e2, h3⟩ := hr hp
  refine ⟨h0, so, e2, fun j x hj q u hu => ?_⟩
  have h4 := h3 j x hj q u hu
  rw [← h4]
  exact hb.cell (World.block_lt_of_cell? w _ h4)
/-- A row of one's own. -/
def OwnK (w : World) (B : Nat) (v : Value) (V : List KY) : Prop := w.ownsRow B KT 32 v V.length (V.flatMap kC)
theorem OwnK.nil (w : World) (B : Nat) : OwnK w B (.slice none 0 0) [] := World.ownsRow_nil _ _ _ _
theorem OwnK.form {w : World} {B : Nat} {v : Value} {V : List KY} (h : OwnK w B v V) : ∃ ao c, v = .slice ao V.length c ∧ (0 < V.length → ∃ g, ao = some ⟨g, 0, none⟩) := by
  obtain ⟨h0, ⟨h1, h2⟩ | ⟨g, cap, cur, rfl, hb, hh, hx⟩⟩ := h
  · exact ⟨none, 0, by rw [h1, h2], fun h => by omega⟩
  · exact ⟨_, cap, rfl, fun _ => ⟨g, rfl⟩⟩
theorem OwnK.lt {w : World} {B : Nat} {v : Value} {V : List KY} (h : OwnK w B v V) {b : Nat} (hb : v.ownBlock = some b) : b < w.heap.size ∧ B ≤ b := by
  obtain ⟨h0, ⟨rfl, h2⟩ | ⟨g, cap, cur, rfl, hB, hh, hx⟩⟩ := h
  · cases hb
  · cases hb; exact ⟨Blk.lt (cs := cur) (t := KT) hh, hB⟩
theorem OwnK.same {w w' : World} {B : Nat} {v : Value} {V : List KY} (h : OwnK w B v V) (hs : ∀ b, v.ownBlock = some b → w'.heap[b]? = w.heap[b]?) : OwnK w' B v V := by
  obtain ⟨h0, h1 | ⟨g, cap, cur, rfl, hB, hh, hx⟩⟩ := h
  · exact ⟨h0, .inl h1⟩
  · exact ⟨h0, .inr ⟨g, cap, cur, rfl, hB, (hs g rfl).trans hh, hx⟩⟩
theorem OwnK.below {w w' : World} {B : Nat} {v : Value} {V : List KY} (h : OwnK w B v V) (hb : Below w.heap.size w w') : OwnK w' B v V := h.same (fun b e => hb.block b (h.lt e).1)
theorem OwnK.lower {w : World} {B C : Nat} {v : Value} {V : List KY} (h : OwnK w C v V) (hB : B ≤ C) : OwnK w B v V := by
  obtain ⟨h0, h1 | ⟨g, cap, cur, rfl, hC, hh, hx⟩⟩ := h
  · exact ⟨h0, .inl h1⟩
  · exact ⟨h0, .inr ⟨g, cap, cur, rfl, Nat.le_trans hB hC, hh, hx⟩⟩
theorem OwnK.read {w : World} {B : Nat} {v : Value} {V : List KY} (h : OwnK w B v V) : KsR w v V := by
  obtain ⟨ao, c, e, hg⟩ := h.form
  refine ⟨ao, c, e, fun hp => ?_⟩
  obtain ⟨g, rfl⟩ := hg hp
  refine ⟨g, 0, rfl, fun j x hx q u hu => ?_⟩
  rw [e] at h
  have hq := flat_at V j x (fun y _ => kC_len y) hx q u hu
  have := World.ownsRow.cells (g := g) h rfl (j * 32 + q) u hq
  rw [Addr.add_mid] at this
  rw [← this]
  congr 2
  omega
theorem kI : ∃ i, Try.prog.info? KT = some i ∧ i.zero = some (kV kZ) ∧ i.size = 32 ∧ i.bytes = 32 := by
  have h : (Try.prog.info? KT).map (fun i => (i.zero, i.size, i.bytes)) = some (some (kV kZ), 32, 32) := by kernel_rfl
  obtain ⟨i, hi, hzz⟩ := Option.map_eq_some_iff.1 h
  simp only [Prod.mk.injEq] at hzz
  exact ⟨i, hi, hzz.1, hzz.2.1, hzz.2.2⟩
theorem run_bsK {op : Oper} {ev : Operand → Value} {x : Operand} {w : World} (v : KY) (ho : op.op = .buildSlice KST 1 #[(0, x)]) (hx : ev x = kV v) : (execOp ev op).run Try.prog w = .ok (.value (.slice (some ⟨w.heap.size, 0, none⟩) 1 1)) (w.alloc (.cells (kA v) KT)) := by
  simp only [execOp, ho]
  simp only [List.map_toArray, List.map_cons, List.map_nil, hx]
  obtain ⟨bs, hk⟩ := v
  obtain ⟨a0, a1, a2, a3, a4, a5, a6, a7, a8, a9, a10, a11, a12, a13, a14, a15, a16, a17, a18, a19, a20, a21, a22, a23, a24, a25, a26, a27, a28, a29, a30, a31, rfl⟩ := list32 hk
  kernel_rfl
section
variable {ops : Array Oper} {rest : List Oper} {op : Oper} {a : Act} {w : World} {Q : Exit → Act → World → Prop}
theorem wpList_bsK (hgd : op.guard = none) (x : Operand) (v : KY) (ho : op.op = .buildSlice KST 1 #[(0, x)]) (hx : a.eval x = kV v)
    (h : wpList Try.prog ops Q rest (a.put op.dst (.slice (some ⟨w.heap.size, 0, none⟩) 1 1)) (w.alloc (.cells (kA v) KT))) : wpList Try.prog ops Q (op :: rest) a w := by
  refine wpList_plain hgd fun K hK => ?_
  unfold Oper.wp
  rw [run_bsK v ho hx]
  exact hK _ _ h
theorem wpList_appK (hgd : op.guard = none) (s x : Operand) (ho : op.op = .call { callee := .builtin .append, args := #[s, x], argTypes := #[KST, KST] })
    (base : Nat) (v : Value) (V : List KY) (hs : a.eval s = v) (hown : OwnK w base v V) (z : Nat) (hx : a.eval x = .slice (some ⟨z, 0, none⟩) 1 1) (e : KY) (hc : KB w z e) (hlen : V.length + 1 ≤ 3518437208832) (hbase : base ≤ w.heap.size)
    (h : ∀ v' w', Hid (OwnK w' base v' (V ++ [e])) → Hid (w.grownBy w' v.ownBlock) → Hid (v'.ownBlock = v.ownBlock ∨ v'.ownBlock = some w.heap.size) → wpList Try.prog ops Q rest (a.put op.dst v') w') : wpList Try.prog ops Q (op :: rest) a w := by
  obtain ⟨i0, hi, hz0, hz1, hz2⟩ := kI
  refine wpList_append_own_at w hgd s x KST ho base KT i0 (kV kZ) 32 32 Try.underlying51 hi hz0 hz1 hz2 (kA_size _) (by decide) v V.length (V.flatMap kC) hs hown ⟨z, 0, none⟩ 1 1 (kC e) hx (by rw [kC_len]) ?_ (kC_one e) (by unfold maxLen; omega) (by omega) hbase ?_
  · intro j u hj
    rw [Addr.add_mid]
    exact hc.rng j u hj
  · intro v' w' h1 h2 _ h4
    refine h v' w' (hide ?_) (hide h2) (hide h4)
    unfold OwnK
    rw [List.length_append, List.length_singleton, List.flatMap_append, List.flatMap_singleton]
    exact h1
end
/-- The first byte at which two keys part. -/
theorem cmp_at (a b : KY) (i : Nat) (hi : i < 32) (he : ∀ j, j < i → bt a j = bt b j) (hn : bt a i ≠ bt b i) : decide (cmp a b < 0) = decide (bt a i < bt b i) := by
  have key : ∀ (n : Nat) (la lb : List UInt8), n < la.length → n < lb.length → (∀ j, j < n → (la.getD j 0).toNat = (lb.getD j 0).toNat) → (la.getD n 0).toNat ≠ (lb.getD n 0).toNat → (cmpK la lb < 0 ↔ (la.getD n 0).toNat < (lb.getD n 0).toNat) := by
    intro n
    induction n with
    | zero =>
      intro la lb h1 h2 _ h4
      cases la with
      | nil => simp at h1
      | cons x xs =>
        cases lb with
        | nil => simp at h2
        | cons y ys =>
          simp only [List.getD_cons_zero] at h4 ⊢
          rw [cmpK_cons]
          have hx : x < y ↔ x.toNat < y.toNat := UInt8.lt_iff_toNat_lt
          have hy : y < x ↔ y.toNat < x.toNat := UInt8.lt_iff_toNat_lt
          by_cases g : x < y
          · rw [if_pos g]; simp [hx.1 g]
          · rw [if_neg g, if_pos (hy.2 (by rw [hx] at g; omega))]; rw [hx] at g; simp [g]
    | succ n ih =>
      intro la lb h1 h2 h3 h4
      cases la with
      | nil => simp at h1
      | cons x xs =>
        cases lb with
        | nil => simp at h2
        | cons y ys =>
          have h0 := h3 0 (by omega)
          simp only [List.getD_cons_zero] at h0
          have hxy : x = y := UInt8.toNat_inj.1 h0
          subst hxy
          rw [cmpK_cons, if_neg (UInt8.lt_irrefl x), if_neg (UInt8.lt_irrefl x)]
          simp only [List.getD_cons_succ] at h4 ⊢
          exact ih xs ys (by simpa using h1) (by simpa using h2) (fun j hj => by have := h3 (j + 1) (by omega); simpa using this) h4
  have := key i a.bs b.bs (by rw [a.l32]; exact hi) (by rw [b.l32]; exact hi) he hn
  unfold cmp bt
  simp only [this]
theorem cmp_eq_all (a b : KY) (he : ∀ j, j < 32 → bt a j = bt b j) : a = b := by
  refine KY.ext (List.ext_getElem (by rw [a.l32, b.l32]) (fun j h1 h2 => ?_))
  have := he j (by rw [← a.l32]; exact h1)
  unfold bt at this
  rw [List.getD_eq_getElem?_getD, List.getD_eq_getElem?_getD, List.getElem?_eq_getElem h1, List.getElem?_eq_getElem h2] at this
  exact UInt8.toNat_inj.1 this
theorem KB.at {w : World} {b : Nat} {k : KY} (h : KB w b k) (j : Nat) (hj : j < 32) : w.cell? ⟨b, j, none⟩ = some (.int .u8 (bt k j : Int)) := by
  have hl : j < k.bs.length := by rw [k.l32]; exact hj
  rw [Blk.cell h]
  simp [kA, kC, hl, bt, u8c]
end TX
end Go.Proofs.Ytdigjpddmfolgaa

/- The law's below, among: walked. -/
namespace Go.Proofs.Ytdigjpddmfolgaa
set_option linter.unusedVariables false
set_option linter.unusedSimpArgs false
namespace TX
open Go.RowKit Go.Sort
set_option maxRecDepth 100000
set_option maxHeartbeats 4000000

theorem twoBox (w : World) (a b : KY) : Below w.heap.size w ((w.alloc (.cells (kA a) KT)).alloc (.cells (kA b) KT)) ∧ KB ((w.alloc (.cells (kA a) KT)).alloc (.cells (kA b) KT)) w.heap.size a ∧ KB ((w.alloc (.cells (kA a) KT)).alloc (.cells (kA b) KT)) (w.heap.size + 1) b :=
  ⟨((Below.refl _ _).alloc (Nat.le_refl _) _).alloc (by simp) _, (Blk.made w _ _).alloc _, blk_mk1 w _ _ _⟩
theorem lbelow_any (w : World) (a b : KY) : Calls Try.prog 15 #[kV a, kV b] w fun e w' => e = .returned (.bool (decide (cmp a b < 0))) ∧ Below w.heap.size w w' := by
  obtain ⟨za, hza⟩ : ∃ za, za = w.heap.size := ⟨_, rfl⟩
  have HZ := hide hza
  go_enter Try.func15, Try.ntmps15
  go_upto_region 1 with fail
  refine name_world (fun W => Below w.heap.size w W ∧ KB W za a ∧ KB W (za + 1) b) (by rw [hza]; exact twoBox w a b) ?_
  rintro W ⟨hB, hA, hC⟩
  rw [← hza]
  have HB := hide hB
  have HA := hide hA
  have HC := hide hC
  clear hB hA hC hza
  go_upto_region 2 with fail
  go_loopw [5] (fun t wr => ∃ i : Nat, t = .int .i64 i ∧ i ≤ 32 ∧ (∀ j, j < i → bt a j = bt b j) ∧ Below za w wr ∧ KB wr za a ∧ KB wr (za + 1) b) (fun t _ => 32 - (intOf t).toNat)
  case atStart => exact ⟨0, rfl, by omega, fun j hj => by omega, by rw [HZ.out]; exact HB.out, HA.out, HC.out⟩
  case round =>
    obtain ⟨i, rfl, hi, hE, hB, hA, hC⟩ := hrel
    have HE := hide hE
    have HB1 := hide hB
    have HA1 := hide hA
    have HC1 := hide hC
    clear hE hB hA hC HB HA HC
    by_cases hlt : i < 32
    · have hji : (i : Int) < 32 := by omega
      have ca := fun d os => cell_regrown (HA1.out.at i hlt) d os
      have cb := fun d os => cell_regrown (HC1.out.at i hlt) d os
      go_upto_region 4 with fail
      refine wp_region_quiet_below (by kernel_rfl) (by kernel_rfl) ?_
      iterate 7 quiet_step (fail)
      refine wpQuiet_nil ?_
      intro w1 hw1
      have hb1 : Below wr.heap.size wr w1 := below_of hw1
      have hzw : za ≤ wr.heap.size := by have := Blk.lt HA1.out; omega
      have HB2 := hide (HB1.out.trans (hb1.mono hzw))
      have HA2 := hide (HA1.out.below hb1)
      have HC2 := hide (HC1.out.below hb1)
      clear hw1 hb1 ca cb hzw HB1 HA1 HC1
      by_cases hn : bt a i = bt b i
      · have hne : (((bt a i : Nat) : Int) != ((bt b i : Nat) : Int)) = false := by rw [hn]; simp
        rw [hne]
        have HN := hide hn
        clear hne hn
        go_wp2
        go_roundw
        case rel => exact ⟨i + 1, by go_num, by omega, fun j hj => by
          by_cases hji : j = i
          · rw [hji]; exact HN.out
          · exact HE.out j (by omega), HB2.out, HA2.out, HC2.out⟩
        case measure => simp [intOf]; omega
      · have hne : (((bt a i : Nat) : Int) != ((bt b i : Nat) : Int)) = true := by simp; omega
        rw [hne]
        have hd := cmp_at a b i hlt HE.out hn
        have HD := hide hd
        clear hne hn hd
        have ca := fun d os => cell_regrown (HA2.out.at i hlt) d os
        have cb := fun d os => cell_regrown (HC2.out.at i hlt) d os
        go_upto_region 5 with fail
        refine wp_region_quiet_below (by kernel_rfl) (by kernel_rfl) ?_
        iterate 8 quiet_step (fail)
        refine wpQuiet_nil ?_
        intro w2 hw2
        have hb2 : Below w1.heap.size w1 w2 := below_of hw2
        have hzw : za ≤ w1.heap.size := by have := Blk.lt HA2.out; omega
        have HB3 := hide (HB2.out.trans (hb2.mono hzw))
        clear hw2 hb2 ca cb hzw
        go_wp2
        go_ret
        refine ⟨?_, by rw [← HZ.out]; exact HB3.out⟩
        rw [HD.out]
        simp
    · obtain rfl : i = 32 := by omega
      have HAB := hide (cmp_eq_all a b HE.out)
      have hji : ¬ ((32 : Nat) : Int) < 32 := by decide
      go_wp2
      go_ret
      refine ⟨?_, by rw [← HZ.out]; exact HB1.out⟩
      have e : cmp a b = 0 := by rw [HAB.out, cmp_self]
      rw [e]
      rfl
theorem among_any (w : World) (k : KY) (v : Value) (L : List KY) (h : KsR w v L) (hL : L.length ≤ 4398046511104) : Calls Try.prog 17 #[kV k, v] w fun e w' => e = .returned (.bool (L.any fun x => eqK x k)) ∧ Below w.heap.size w w' := by
  obtain ⟨ao, c, rfl, hr⟩ := h
  obtain ⟨n, hn⟩ : ∃ n, n = L.length := ⟨_, rfl⟩
  have HR : Hid (∀ W', Below w.heap.size w W' → KsR W' (.slice ao L.length c) L) := hide (fun W' hb => KsR.below ⟨ao, c, rfl, hr⟩ hb)
  rw [← hn] at HR hL ⊢
  have HNL := hide hn
  obtain ⟨za, hza⟩ : ∃ za, za = w.heap.size := ⟨_, rfl⟩
  have HZ := hide hza
  clear hr hn
  go_enter Try.func17, Try.ntmps17
  go_upto_region 1 with fail
  refine name_world (fun W => Below w.heap.size w W ∧ KB W za k) (by rw [hza]; exact ⟨below_alloc w _, KB.made w k⟩) ?_
  rintro W ⟨hB, hA⟩
  rw [← hza]
  have HB := hide hB
  have HA := hide hA
  clear hB hA hza
  go_upto_region 2 with fail
  go_loopw [5] (fun t wr => ∃ i : Nat, t = .int .i64 i ∧ i ≤ n ∧ (∀ j x, j < i → L[j]? = some x → eqK x k = false) ∧ Below za w wr ∧ KB wr za k) (fun t _ => n - (intOf t).toNat)
  case atStart => exact ⟨0, rfl, by omega, fun j x hj => by omega, by rw [HZ.out]; exact HB.out, HA.out⟩
  case round =>
    obtain ⟨i, rfl, hi, hE, hB, hA⟩ := hrel
    have HE := hide hE
    have HB1 := hide hB
    have HA1 := hide hA
    clear hE hB hA HB HA
    by_cases hlt : i < n
    · have hji : (i : Int) < (n : Int) := by omega
      obtain ⟨x, hx⟩ : ∃ x, L[i]? = some x := ⟨_, List.getElem?_eq_getElem (by rw [← HNL.out]; exact hlt)⟩
      obtain ⟨ao2, c2, he, hrr⟩ := HR.out wr (by rw [← HZ.out]; exact HB1.out)
      cases he
      obtain ⟨g, so, rfl, hg⟩ := hrr (by rw [← HNL.out]; omega)
      have HX := hide hx
      have HRX : Hid (∀ d os, (grow (redrawn wr d) os).rangeAt g (so + i * 32) (kC x)) := hide (range_regrown (hg i x hx))
      have HRK : Hid (∀ d os, (grow (redrawn wr d) os).rangeAt za 0 (kC k)) := hide (range_regrown HA1.out.rng)
      clear hrr hg hx
      go_upto_region 4 with fail
      refine wp_region_quiet_below (by kernel_rfl) (by kernel_rfl) ?_
      iterate 3 quiet_step (fail)
      refine wpQuiet_val (kV x) rfl (fun w0 hw => ?_) ?_
      · obtain ⟨p0, rfl⟩ := hw
        exact run_loadO rfl rfl (run_ldK (HRX.out _ _))
      refine wpQuiet_val (kV k) rfl (fun w0 hw => ?_) ?_
      · obtain ⟨p0, rfl⟩ := hw
        exact run_loadO rfl rfl (run_ldK (HRK.out _ _))
      refine wpQuiet_val (.bool (eqK x k)) rfl (fun w0 _ => run_eqlK rfl rfl rfl w0) ?_
      refine wpQuiet_nil ?_
      intro w1 hw1
      have hb1 : Below wr.heap.size wr w1 := below_of hw1
      have hzw : za ≤ wr.heap.size := by have := Blk.lt HA1.out; omega
      have HB2 := hide (HB1.out.trans (hb1.mono hzw))
      have HA2 := hide (HA1.out.below hb1)
      clear hw1 hb1 hzw HRX HRK HB1 HA1
      by_cases hq : eqK x k = true
      · have HA0 : Hid ((L.any fun x => eqK x k) = true) := hide (List.any_eq_true.2 ⟨x, List.mem_of_getElem? HX.out, hq⟩)
        rw [hq]
        clear hq
        go_wp2
        go_ret
        refine ⟨?_, by rw [← HZ.out]; exact HB2.out⟩
        rw [HA0.out]
        rfl
      · have hq0 : eqK x k = false := by simpa using hq
        have HQ := hide hq0
        rw [hq0]
        clear hq hq0
        go_wp2
        go_roundw
        case rel => exact ⟨i + 1, by go_num, by omega, fun j y hj hy => by
          by_cases hji : j = i
          · rw [hji, HX.out] at hy
            cases hy
            exact HQ.out
          · exact HE.out j y (by omega) hy, HB2.out, HA2.out⟩
        case measure => simp [intOf]; omega
    · have hji : ¬ (i : Int) < (n : Int) := by omega
      have HN0 : Hid ((L.any fun x => eqK x k) = false) := hide (by
        refine List.any_eq_false.2 (fun x hx => ?_)
        obtain ⟨j, hj, e⟩ := List.getElem_of_mem hx
        have := HE.out j x (by have := HNL.out; omega) (by rw [List.getElem?_eq_getElem hj, e])
        simp [this])
      go_wp2
      go_ret
      refine ⟨?_, by rw [← HZ.out]; exact HB1.out⟩
      rw [HN0.out]
      rfl
end TX
end Go.Proofs.Ytdigjpddmfolgaa

/- The document's order of keys; its list in memory; find. -/
namespace Go.Proofs.Ytdigjpddmfolgaa
set_option linter.unusedVariables false
set_option linter.unusedSimpArgs false
namespace TX
open Go.RowKit Go.Sort
set_option maxRecDepth 100000
set_option maxHeartbeats 4000000

theorem cmp_lo (a b : KY) (i : Nat) (hi : i < 32) (he : ∀ j, j < i → bt a j = bt b j) (hn : bt a i < bt b i) : cmp a b = -1 := by
  have h := cmp_at a b i hi he (by omega)
  have h2 : cmp a b < 0 := by simpa [hn] using h
  rcases cmpK_range a.bs b.bs with e | e | e
  · exact e
  · unfold cmp at h2; omega
  · unfold cmp at h2; omega
theorem cmp_hi (a b : KY) (i : Nat) (hi : i < 32) (he : ∀ j, j < i → bt a j = bt b j) (hn : bt b i < bt a i) : cmp a b = 1 := by
  have h := cmp_lo b a i hi (fun j hj => (he j hj).symm) hn
  rw [cmp_neg, h]; rfl
theorem rcompare_any (w : World) (a b : KY) : Calls Try.prog 44 #[kV a, kV b] w fun e w' => e = .returned (.int .i64 (cmp a b)) ∧ Below w.heap.size w w' := by
  obtain ⟨za, hza⟩ : ∃ za, za = w.heap.size := ⟨_, rfl⟩
  have HZ := hide hza
  go_enter Try.func44, Try.ntmps44
  go_upto_region 1 with fail
  refine name_world (fun W => Below w.heap.size w W ∧ KB W za a ∧ KB W (za + 1) b) (by rw [hza]; exact twoBox w a b) ?_
  rintro W ⟨hB, hA, hC⟩
  rw [← hza]
  have HB := hide hB
  have HA := hide hA
  have HC := hide hC
  clear hB hA hC hza
  go_upto_region 2 with fail
  go_loopw [5] (fun t wr => ∃ i : Nat, t = .int .i64 i ∧ i ≤ 32 ∧ (∀ j, j < i → bt a j = bt b j) ∧ Below za w wr ∧ KB wr za a ∧ KB wr (za + 1) b) (fun t _ => 32 - (intOf t).toNat)
  case atStart => exact ⟨0, rfl, by omega, fun j hj => by omega, by rw [HZ.out]; exact HB.out, HA.out, HC.out⟩
  case round =>
    obtain ⟨i, rfl, hi, hE, hB, hA, hC⟩ := hrel
    have HE := hide hE
    have HB1 := hide hB
    have HA1 := hide hA
    have HC1 := hide hC
    clear hE hB hA hC HB HA HC
    by_cases hlt : i < 32
    · have hji : (i : Int) < 32 := by omega
      have ca := fun d os => cell_regrown (HA1.out.at i hlt) d os
      have cb := fun d os => cell_regrown (HC1.out.at i hlt) d os
      go_upto_region 4 with fail
      refine wp_region_quiet_below (by kernel_rfl) (by kernel_rfl) ?_
      iterate 7 quiet_step (fail)
      refine wpQuiet_nil ?_
      intro w1 hw1
      have hb1 : Below wr.heap.size wr w1 := below_of hw1
      have hzw : za ≤ wr.heap.size := by have := Blk.lt HA1.out; omega
      have HB2 := hide (HB1.out.trans (hb1.mono hzw))
      have HA2 := hide (HA1.out.below hb1)
      have HC2 := hide (HC1.out.below hb1)
      clear hw1 hb1 ca cb hzw HB1 HA1 HC1
      by_cases hn : bt a i < bt b i
      · have hne : decide (bt a i < bt b i) = true := by simp; omega
        rw [hne]
        have HN := hide (cmp_lo a b i hlt HE.out hn)
        clear hne hn
        go_wp2
        go_ret
        exact ⟨by rw [HN.out]; rfl, by rw [← HZ.out]; exact HB2.out⟩
      · have hne : decide (bt a i < bt b i) = false := by simp; omega
        rw [hne]
        have HN1 := hide hn
        clear hne hn
        have ca := fun d os => cell_regrown (HA2.out.at i hlt) d os
        have cb := fun d os => cell_regrown (HC2.out.at i hlt) d os
        go_upto_region 6 with fail
        refine wp_region_quiet_below (by kernel_rfl) (by kernel_rfl) ?_
        iterate 7 quiet_step (fail)
        refine wpQuiet_nil ?_
        intro w2 hw2
        have hb2 : Below w1.heap.size w1 w2 := below_of hw2
        have hzw : za ≤ w1.heap.size := by have := Blk.lt HA2.out; omega
        have HB3 := hide (HB2.out.trans (hb2.mono hzw))
        have HA3 := hide (HA2.out.below hb2)
        have HC3 := hide (HC2.out.below hb2)
        clear hw2 hb2 ca cb hzw HB2 HA2 HC2
        by_cases hn : bt b i < bt a i
        · have hne : decide (bt b i < bt a i) = true := by simp; omega
          rw [hne]
          have HN := hide (cmp_hi a b i hlt HE.out hn)
          clear hne hn
          go_wp2
          go_ret
          exact ⟨by rw [HN.out]; rfl, by rw [← HZ.out]; exact HB3.out⟩
        · have hne : decide (bt b i < bt a i) = false := by simp; omega
          rw [hne]
          have HN2 := hide hn
          clear hne hn
          go_wp2
          go_roundw
          case rel => exact ⟨i + 1, by go_num, by omega, fun j hj => by
            by_cases hji : j = i
            · rw [hji]; have := HN1.out; have := HN2.out; omega
            · exact HE.out j (by omega), HB3.out, HA3.out, HC3.out⟩
          case measure => simp [intOf]; omega
    · obtain rfl : i = 32 := by omega
      have hab : a = b := cmp_eq_all a b HE.out
      have HN : Hid (cmp a b = 0) := hide (by rw [hab]; exact cmp_self b)
      clear hab
      go_wp2
      go_ret
      exact ⟨by rw [HN.out]; rfl, by rw [← HZ.out]; exact HB1.out⟩
end TX
end Go.Proofs.Ytdigjpddmfolgaa

/- The document's index: its list in memory; find. -/
namespace Go.Proofs.Ytdigjpddmfolgaa
set_option linter.unusedVariables false
set_option linter.unusedSimpArgs false
namespace TX
open Go.RowKit Go.Sort
set_option maxRecDepth 100000
set_option maxHeartbeats 4000000

abbrev RIT : TypeId := 45
/-- The document's index at q has this list. -/
structure RlAt (w : World) (q : Nat) (V : List KE) : Prop where
  ex : ∃ v, Blk w q #[v] RIT ∧ OwnD w 0 v V
section
variable {w w' : World} {q : Nat} {V : List KE}
theorem RlAt.lt (h : RlAt w q V) : q < w.heap.size := by obtain ⟨v, h1, _⟩ := h.ex; exact h1.lt
theorem RlAt.below (h : RlAt w q V) (hb : Below w.heap.size w w') : RlAt w' q V := by
  obtain ⟨v, h1, h2⟩ := h.ex
  exact ⟨v, h1.below hb h1.lt, h2.below hb⟩
theorem RlAt.grown {row : Option Nat} (h : RlAt w q V) (hg : w.grownBy w' row) (hq : some q ≠ row) (hd : ∀ g cs, Blk w g cs KDT → some g ≠ row) : RlAt w' q V := by
  obtain ⟨v, h1, h2⟩ := h.ex
  exact ⟨v, h1.grown hg hq, h2.grown hg (fun g e => by obtain ⟨cs, hc⟩ := h2.blk e; exact hd g cs hc)⟩
/-- What a walk over the list reads. -/
theorem RlAt.open (h : RlAt w q V) : ∃ ao n c, Blk w q #[.slice ao n c] RIT ∧ Hid (n = V.length) ∧ OwnD w 0 (.slice ao n c) V ∧ ∀ (i : Nat) (z : KE), V[i]? = some z → ∃ g, ao = some ⟨g, 0, none⟩ ∧ w.rangeAt g (i * 36) (kdC z) := by
  obtain ⟨v, h1, h2⟩ := h.ex
  obtain ⟨ao, c, rfl, hr⟩ := h2.read
  refine ⟨ao, V.length, c, h1, hide rfl, h2, fun i z hz => ?_⟩
  obtain ⟨ao2, c2, e2, hg⟩ := h2.form
  cases e2
  obtain ⟨g, rfl⟩ := hg (by have := (List.getElem?_eq_some_iff.1 hz).1; omega)
  obtain ⟨h, so, e, h3⟩ := hr (by have := (List.getElem?_eq_some_iff.1 hz).1; omega)
  cases e
  refine ⟨g, rfl, ?_⟩
  have := h3 i z hz
  rw [Nat.zero_add] at this
  exact this
end
theorem kd_keyAt {w : World} {b o : Nat} {z : KE} (h : w.rangeAt b o (kdC z)) : w.rangeAt b o (kC z.1) := fun j v hj => by
  refine h j v ?_
  unfold kdC
  rw [List.getElem?_append_left ((List.getElem?_eq_some_iff.1 hj).1)]
  exact hj
theorem kd_entAt {w : World} {b o : Nat} {z : KE} (h : w.rangeAt b o (kdC z)) : w.rangeAt b (o + 32) (eC z.2) := fun j v hj => by
  have := h (32 + j) v (by
    unfold kdC
    rw [List.getElem?_append_right (by rw [kC_len]; omega), kC_len, Nat.add_sub_cancel_left]
    exact hj)
  rw [← this]
  congr 2
  omega
/-- Where a key stands. -/
def FndR (V : List KE) (k : KY) (r : Int) : Prop := (∃ (i : Nat) (z : KE), r = (i : Int) ∧ V[i]? = some z ∧ z.1 = k ∧ ∀ (j : Nat) (y : KE), j < i → V[j]? = some y → y.1 ≠ k) ∨ (r = -1 ∧ ∀ z ∈ V, z.1 ≠ k)
theorem rfind_any (w : World) {q : Nat} {V : List KE} (h : RlAt w q V) (hV : V.length ≤ 2199023255552) (k : KY) (r : Int) (hr : FndR V k r) : Calls Try.prog 43 #[.pointer (some ⟨q, 0, none⟩), kV k] w fun e w' => e = .returned (.int .i64 r) ∧ Below w.heap.size w w' := by
  have HH := hide h
  have HR := hide hr
  have hn := hV
  clear h hr hV
  go_enter Try.func43, Try.ntmps43
  go_upto_region 1 with fail
  refine name_world (fun W => Below w.heap.size w W ∧ KB W w.heap.size k ∧ RlAt W q V) ⟨below_alloc w _, KB.made w k, HH.out.below (below_alloc w _)⟩ ?_
  rintro W ⟨hB, hK, hL⟩
  obtain ⟨kb, hkb⟩ : ∃ kb, kb = w.heap.size := ⟨_, rfl⟩
  rw [← hkb] at hK ⊢
  have HKB := hide hkb
  have HB := hide hB
  have HK := hide hK
  have HL := hide hL
  clear hB hK hL hkb HH
  go_upto_region 2 with fail
  go_loopw [5] (fun t wr => ∃ i : Nat, t = .int .i64 i ∧ i ≤ V.length ∧ (∀ (j : Nat) (y : KE), j < i → V[j]? = some y → y.1 ≠ k) ∧ Below w.heap.size w wr ∧ KB wr kb k ∧ RlAt wr q V) (fun t _ => V.length - (intOf t).toNat)
  case atStart => exact ⟨0, rfl, by omega, fun j y hj => by omega, HB.out, HK.out, HL.out⟩
  case round =>
    obtain ⟨i, rfl, hi, hE, hB, hK, hL⟩ := hrel
    obtain ⟨ao, n, c, hq, hnV, _, hrow⟩ := hL.open
    have HE := hide hE
    have HB1 := hide hB
    have HK1 := hide hK
    have HL1 := hide hL
    have HRow := hide hrow
    have cq : wr.cell? ⟨q, 0, none⟩ = some (.slice ao n c) := by rw [hq.cell]; rfl
    have lq := hq.lt
    have hin : i ≤ n := by rw [hnV.out]; exact hi
    have hn2 : n ≤ 2199023255552 := by rw [hnV.out]; exact hn
    have HI : Hid (i ≤ V.length) := hide hi
    have HVn := hide hn
    clear hE hB hK hL hrow hq HB HK HL hi hn
    by_cases hlt : i < n
    · have hji : (i : Int) < (n : Int) := by omega
      obtain ⟨z, hz⟩ : ∃ z, V[i]? = some z := ⟨_, List.getElem?_eq_getElem (by rw [← hnV.out]; exact hlt)⟩
      obtain ⟨g, rfl, hrg⟩ := HRow.out i z hz
      have HZ := hide hz
      have HRG := hide (range_regrown (kd_keyAt hrg))
      have HKR := hide (range_regrown HK1.out.rng)
      have cqr := fun d os => cell_regrown cq d os
      have hpi : (i : Int) < (n : Int) := hji
      clear hz hrg
      go_upto_region 4 with fail
      refine wp_region_quiet_below (by kernel_rfl) (by kernel_rfl) ?_
      iterate 7 quiet_step (fail)
      refine wpQuiet_val (kV z.1) rfl (fun w0 hw => ?_) ?_
      · obtain ⟨p0, rfl⟩ := hw
        exact run_loadO rfl rfl (run_ldK (HRG.out _ _))
      refine wpQuiet_val (kV k) rfl (fun w0 hw => ?_) ?_
      · obtain ⟨p0, rfl⟩ := hw
        exact run_loadO rfl rfl (run_ldK (HKR.out _ _))
      refine wpQuiet_val (.bool (eqK z.1 k)) rfl (fun w0 _ => run_eqlK rfl rfl rfl _) ?_
      refine wpQuiet_nil ?_
      intro w1 hw1
      have hb1 : Below wr.heap.size wr w1 := below_of hw1
      have hzw : kb ≤ wr.heap.size := by have := Blk.lt HK1.out; omega
      have HB2 := hide (HB1.out.trans (hb1.mono (by rw [← HKB.out]; exact hzw)))
      have HK2 := hide (HK1.out.below hb1)
      have HL2 := hide (HL1.out.below hb1)
      clear hw1 hb1 hzw HB1 HK1 HL1 cq lq cqr HRG HKR HRow
      by_cases hq2 : z.1 = k
      · have he : eqK z.1 k = true := (eqK_iff _ _).2 hq2
        rw [he]
        have HQ := hide hq2
        clear he hq2
        go_wp2
        go_ret
        refine ⟨?_, HB2.out⟩
        rcases HR.out with ⟨i2, z2, rfl, h1, h2, h3⟩ | ⟨_, h2⟩
        · rcases Nat.lt_trichotomy i i2 with g1 | g1 | g1
          · exact absurd HQ.out (h3 i z g1 HZ.out)
          · rw [g1]; rfl
          · exact absurd h2 (HE.out i2 z2 g1 h1)
        · exact absurd HQ.out (h2 z (List.mem_of_getElem? HZ.out))
      · have he : eqK z.1 k = false := by
          cases h : eqK z.1 k with
          | false => rfl
          | true => exact absurd ((eqK_iff _ _).1 h) hq2
        rw [he]
        have HQ := hide hq2
        clear he hq2
        have hi2 : Hid (i + 1 ≤ V.length) := hide (by have := hnV.out; omega)
        go_wp2
        go_roundw
        case rel => exact ⟨i + 1, by go_num, hi2.out, fun j y hj hy => by
          by_cases hji : j = i
          · rw [hji, HZ.out] at hy
            cases hy
            exact HQ.out
          · exact HE.out j y (by omega) hy, HB2.out, HK2.out, HL2.out⟩
        case measure => have := hi2.out; simp [intOf]; omega
    · have hji : ¬ (i : Int) < (n : Int) := by omega
      have hev : Hid (∀ z ∈ V, z.1 ≠ k) := hide (fun z hz => by
        obtain ⟨j, hj, rfl⟩ := List.getElem_of_mem hz
        exact HE.out j _ (by have := hnV.out; omega) (List.getElem?_eq_getElem hj))
      clear HRow
      go_wp2
      go_ret
      refine ⟨?_, HB1.out⟩
      rcases HR.out with ⟨i2, z2, rfl, h1, h2, h3⟩ | ⟨rfl, _⟩
      · exact absurd h2 (hev.out z2 (List.mem_of_getElem? h1))
      · rfl
end TX
end Go.Proofs.Ytdigjpddmfolgaa

/- The document's index: Get. -/
namespace Go.Proofs.Ytdigjpddmfolgaa
set_option linter.unusedVariables false
set_option linter.unusedSimpArgs false
namespace TX
open Go.RowKit Go.Sort
set_option maxRecDepth 100000
set_option maxHeartbeats 4000000

theorem first_at (k : KY) : ∀ (V : List KE), (∃ z ∈ V, z.1 = k) → ∃ (i : Nat) (z : KE), V[i]? = some z ∧ z.1 = k ∧ ∀ (j : Nat) (y : KE), j < i → V[j]? = some y → y.1 ≠ k
  | [], h => by obtain ⟨z, hz, _⟩ := h; cases hz
  | v :: V, h => by
    by_cases e : v.1 = k
    · exact ⟨0, v, rfl, e, fun j y hj => by omega⟩
    · obtain ⟨z, hz, hk⟩ := h
      obtain ⟨i, z2, h1, h2, h3⟩ := first_at k V ⟨z, by
        rcases List.mem_cons.1 hz with rfl | h
        · exact absurd hk e
        · exact h, hk⟩
      refine ⟨i + 1, z2, by simpa using h1, h2, fun j y hj hy => ?_⟩
      cases j with
      | zero => simp at hy; rw [← hy]; exact e
      | succ j => exact h3 j y (by omega) (by simpa using hy)
theorem fnd_no {V : List KE} {f : KY → Option EN} (hM : Maps V f) {k : KY} (h : f k = none) : FndR V k (-1) := .inr ⟨rfl, fun z hz e => by
  have := (hM.mem z.1 z.2).1 hz
  rw [e, h] at this
  cases this⟩
theorem fnd_yes {V : List KE} {f : KY → Option EN} (hM : Maps V f) {k : KY} {e : EN} (h : f k = some e) : ∃ i : Nat, V[i]? = some (k, e) ∧ FndR V k (i : Int) := by
  obtain ⟨i, z, h1, h2, h3⟩ := first_at k V ⟨(k, e), (hM.mem k e).2 h, rfl⟩
  have h4 := (hM.mem z.1 z.2).1 (List.mem_of_getElem? h1)
  rw [h2, h] at h4
  have : z = (k, e) := by
    obtain ⟨a, b⟩ := z
    simp only at h2 h4
    rw [h2]; cases h4; rfl
  exact ⟨i, by rw [← this]; exact h1, .inl ⟨i, z, rfl, h1, h2, h3⟩⟩
theorem kePair (w : World) (k : KY) : Below w.heap.size w ((w.alloc (.cells (kA k) KT)).alloc (.cells (eA eZ) ET)) ∧ KB ((w.alloc (.cells (kA k) KT)).alloc (.cells (eA eZ) ET)) w.heap.size k ∧ EB ((w.alloc (.cells (kA k) KT)).alloc (.cells (eA eZ) ET)) (w.heap.size + 1) eZ := by
  refine ⟨((Below.refl _ _).alloc (Nat.le_refl _) _).alloc (by simp) _, (Blk.made w _ _).alloc _, ?_⟩
  have := Blk.made (w.alloc (.cells (kA k) KT)) (eA eZ) ET
  rw [World.size_alloc] at this
  exact this
theorem rget_any (w : World) {q : Nat} {V : List KE} {f : KY → Option EN} (h : RlAt w q V) (hM : Maps V f) (hV : V.length ≤ 2199023255552) (k : KY) : Calls Try.prog 23 #[.pointer (some ⟨q, 0, none⟩), kV k] w fun e w' => e = .returned (optV (f k)) ∧ Below w.heap.size w w' := by
  have HH := hide h
  have HM := hide hM
  have HVL := hide hV
  have hz0 := zero_E
  clear h hM hV
  go_enter Try.func23, Try.ntmps23
  go_upto_region 1 with fail
  refine name_world (fun W => Below w.heap.size w W ∧ KB W w.heap.size k ∧ EB W (w.heap.size + 1) eZ ∧ RlAt W q V) ⟨(kePair w k).1, (kePair w k).2.1, (kePair w k).2.2, HH.out.below (kePair w k).1⟩ ?_
  rintro W ⟨hB, hK, hE, hL⟩
  obtain ⟨kb, hkb⟩ : ∃ kb, kb = w.heap.size := ⟨_, rfl⟩
  rw [← hkb] at hK hE ⊢
  have HKB := hide hkb
  have HB := hide hB
  have HK := hide hK
  have HE := hide hE
  have HL := hide hL
  clear hB hK hE hL hkb HH hz0
  cases hf : f k with
  | none =>
    have HFn := hide (rfind_any W HL.out HVL.out k (-1) (fnd_no HM.out hf))
    have HFK := hide hf
    clear hf
    go_upto_region 2 with (first | ((with_reducible refine wpList_ldK ?_ (.tmp 3) ?_ kb 0 ?_ k HK.out.rng ?_); rfl; rfl; rfl) | (go_at_call 43; (with_reducible refine HFn.out.mono ?_); rintro e w2 ⟨rfl, hb⟩; have HB2 := hide (HB.out.trans (hb.mono HB.out.size)); have HE2 := hide (HE.out.below hb); clear hb))
    go_wp2_with (first | (refine wpList_val (eV eZ) (by rfl) (run_bdE0 (by rfl) _) ?_) | ((with_reducible refine wpList_stEB ?_ (.tmp 4) (.tmp 12) ?_ (kb + 1) ?_ eZ eZ ?_ HE2.out ?_); rfl; rfl; rfl; rfl; intro w4 h4 hg4))
    refine ⟨rfl, _, results_cell_tmp (p := 4) (q := 5) (ty := ET) rfl _ _ ⟨kb + 1, 0, none⟩ rfl (eV eZ) (.bool false) rfl (loadE h4.out.rng), by rw [HFK.out]; rfl, ?_⟩
    exact HB2.out.grown hg4.out HB2.out.size (fun j hj => by cases hj; have := HKB.out; omega)
  | some e =>
    obtain ⟨i, hi, hr⟩ := fnd_yes HM.out hf
    have HI := hide hi
    have HFK := hide hf
    have HFn := hide (rfind_any W HL.out HVL.out k i hr)
    clear hf hr hi
    go_upto_region 2 with (first | ((with_reducible refine wpList_ldK ?_ (.tmp 3) ?_ kb 0 ?_ k HK.out.rng ?_); rfl; rfl; rfl) | (go_at_call 43; (with_reducible refine HFn.out.mono ?_); rintro e w2 ⟨rfl, hb⟩; have HB2 := hide (HB.out.trans (hb.mono HB.out.size)); have HE2 := hide (HE.out.below hb); have HL2 := hide (HL.out.below hb); clear hb))
    obtain ⟨ao, n, c, hq, hnV, _, hrow⟩ := HL2.out.open
    obtain ⟨g, rfl, hrg⟩ := hrow i (k, e) HI.out
    have HRG := hide (kd_entAt hrg)
    have cq : w2.cell? ⟨q, 0, none⟩ = some (.slice (some ⟨g, 0, none⟩) n c) := by rw [hq.cell]; rfl
    have lq := hq.lt
    have hin : (i : Int) < (n : Int) := by have h1 := (List.getElem?_eq_some_iff.1 HI.out).1; have h2 := hnV.out; omega
    have hi0 : ¬ ((i : Int) < 0) := by omega
    clear hq hrow hrg
    go_wp2_with (first | ((with_reducible refine wpList_ldE ?_ (.tmp 19) ?_ g (i * 36 + 32) ?_ e HRG.out ?_); rfl; rfl; rfl) | ((with_reducible refine wpList_stEB ?_ (.tmp 4) (.tmp 20) ?_ (kb + 1) ?_ eZ e ?_ HE2.out ?_); rfl; rfl; rfl; rfl; intro w4 h4 hg4))
    refine ⟨rfl, _, results_cell_tmp (p := 4) (q := 5) (ty := ET) rfl _ _ ⟨kb + 1, 0, none⟩ rfl (eV e) (.bool true) rfl (loadE h4.out.rng), by rw [HFK.out]; rfl, ?_⟩
    exact HB2.out.grown hg4.out HB2.out.size (fun j hj => by cases hj; have := HKB.out; omega)
end TX
end Go.Proofs.Ytdigjpddmfolgaa

/- The document's index: Next. -/
namespace Go.Proofs.Ytdigjpddmfolgaa
set_option linter.unusedVariables false
set_option linter.unusedSimpArgs false
namespace TX
open Go.RowKit Go.Sort
set_option maxRecDepth 100000
set_option maxHeartbeats 8000000

theorem lst_unique {aft : KY} {any : Bool} {f : KY → Option EN} {a b : Option KE} (ha : Lst aft any (fun k e => f k = some e) a) (hb : Lst aft any (fun k e => f k = some e) b) : a = b := by
  cases a with
  | none =>
    cases b with
    | none => rfl
    | some y => exact absurd hb.2.1 (ha y.1 y.2 hb.1)
  | some x =>
    cases b with
    | none => exact absurd ha.2.1 (hb x.1 x.2 ha.1)
    | some y =>
      have hk : x.1 = y.1 := by
        rcases ha.2.2 y.1 y.2 hb.1 hb.2.1 with h1 | h1
        · exact h1.symm
        · rcases hb.2.2 x.1 x.2 ha.1 ha.2.1 with h2 | h2
          · exact h2
          · have := cmp_neg x.1 y.1; omega
      have h1 := ha.1
      have h2 := hb.1
      obtain ⟨k, e⟩ := x
      obtain ⟨k2, e2⟩ := y
      simp only at hk h1 h2
      subst hk
      rw [h1] at h2
      cases h2
      rfl
/-- The first that may be told, in a list whose keys rise. -/
theorem lst_ris {aft : KY} {any : Bool} {V : List KE} {f : KY → Option EN} (hM : Maps V f) (hR : RisD V) {i : Nat} {z : KE} (hz : V[i]? = some z) (hok : okN aft any z.1) (hno : ∀ (j : Nat) (y : KE), j < i → V[j]? = some y → ¬ okN aft any y.1) : Lst aft any (fun k e => f k = some e) (some z) := by
  refine ⟨(hM.mem _ _).1 (List.mem_of_getElem? hz), hok, fun k' e' h1 h2 => ?_⟩
  obtain ⟨j, hj, e⟩ := List.getElem_of_mem ((hM.mem k' e').2 h1)
  have hj2 : V[j]? = some (k', e') := by rw [List.getElem?_eq_getElem hj, e]
  rcases Nat.lt_trichotomy j i with g | g | g
  · exact absurd h2 (hno j _ g hj2)
  · rw [g, hz] at hj2
    cases hj2
    exact .inl rfl
  · right
    obtain ⟨hi, ez⟩ := List.getElem?_eq_some_iff.1 hz
    have := (List.pairwise_iff_getElem.1 hR) i j hi hj g
    rw [ez, e] at this
    exact this
theorem lst_none {aft : KY} {any : Bool} {V : List KE} {f : KY → Option EN} (hM : Maps V f) (hno : ∀ (j : Nat) (y : KE), V[j]? = some y → ¬ okN aft any y.1) : Lst aft any (fun k e => f k = some e) none := fun k e h => by
  obtain ⟨j, hj, e2⟩ := List.getElem_of_mem ((hM.mem k e).2 h)
  exact hno j _ (by rw [List.getElem?_eq_getElem hj, e2])
theorem kdPair (w : World) (k : KY) : Below w.heap.size w ((w.alloc (.cells (kA k) KT)).alloc (.cells (kdA kdZ) KDT)) ∧ KB ((w.alloc (.cells (kA k) KT)).alloc (.cells (kdA kdZ) KDT)) w.heap.size k ∧ Blk ((w.alloc (.cells (kA k) KT)).alloc (.cells (kdA kdZ) KDT)) (w.heap.size + 1) (kdA kdZ) KDT :=
  ⟨((Below.refl _ _).alloc (Nat.le_refl _) _).alloc (by simp) _, (Blk.made w _ _).alloc _, blk_mk1 w _ _ _⟩
theorem run_bdD0 {op : Oper} {ev : Operand → Value} (ho : op.op = .build KDT #[]) (w : World) : (execOp ev op).run Try.prog w = .ok (.value (kdV kdZ)) w := by
  simp only [execOp, ho]
  simp only [List.map_toArray, List.map_nil]
  kernel_rfl
theorem wanted_noQ {ops : Array Oper} {o : Oper} {a : Act} {j : Nat} {b : Bool} {t : Tmp} (hg : o.guard = some (j, b)) (hd : (ops[j]?).bind (·.dst) = some t) (he : a.eval (.tmp t) = .bool (!b)) (hz : t < a.tmps.size) : Region.wanted o (yielded ops a.tmps) = false := by
  have h1 : a.tmps[t]? = some (.bool (!b)) := by
    rw [Array.getElem?_eq_getElem hz]
    simpa [Act.eval, hz] using he
  simp [Region.wanted, hg, yielded, hd, h1]
theorem wpQuiet_no {P : Program} {ops : Array Oper} {C : World → Prop} {Q : Act → Prop} {a : Act} {o : Oper} {rest : List Oper} (hg : Region.wanted o (yielded ops a.tmps) = false) (h : wpQuiet P ops C Q rest (a.put o.dst undef)) : wpQuiet P ops C Q (o :: rest) a := by
  unfold wpQuiet
  rw [if_neg (by rw [hg]; simp)]
  exact h
/-- Operations whose guard is off, one behind the other. -/
theorem wpQuiet_nos {P : Program} {ops : Array Oper} {C : World → Prop} {Q : Act → Prop} (t : Tmp) (j : Nat) (b : Bool) (hd : (ops[j]?).bind (·.dst) = some t) : ∀ (n : Nat) (L : List Oper) (a : Act), (∀ x ∈ L.take n, x.guard = some (j, b) ∧ ∃ d, x.dst = some d ∧ d ≠ t) → a.eval (.tmp t) = .bool (!b) → t < a.tmps.size →
    wpQuiet P ops C Q (L.drop n) ((L.take n).foldl (fun a o => a.put o.dst undef) a) → wpQuiet P ops C Q L a
  | 0, L, a, _, _, _, h => h
  | n + 1, [], a, _, _, _, h => h
  | n + 1, o :: L, a, hL, he, hz, h => by
    obtain ⟨g, d, hdd, hne⟩ := hL o (by simp)
    refine wpQuiet_no (wanted_noQ g hd he hz) ?_
    refine wpQuiet_nos t j b hd n L (a.put o.dst undef) (fun x hx => hL x (by simp [hx])) ?_ ?_ (by simpa using h)
    · rw [hdd]
      simp only [Act.put, Act.eval] at he ⊢
      rw [← he]
      simp [Array.getD, Array.getElem_setIfInBounds, hz, Ne.symm hne, hne]
    · rw [hdd]; simpa [Act.put] using hz
theorem wpQuiet_move_nos {P : Program} {ops : Array Oper} {C : World → Prop} {Q : Act → Prop} {a : Act} {o : Oper} {L : List Oper} (t : Tmp) (j : Nat) (b : Bool) (n : Nat) (hg : Region.wanted o (yielded ops a.tmps) = true) (hr : ∀ w, C w → (execOp a.eval o).run P w = .ok (.value (.bool (!b))) w) (hot : o.dst = some t) (hd : (ops[j]?).bind (·.dst) = some t)
    (hz : t < a.tmps.size) (hL : ∀ x ∈ L.take n, x.guard = some (j, b) ∧ ∃ d, x.dst = some d ∧ d ≠ t)
    (h : wpQuiet P ops C Q (L.drop n) ((L.take n).foldl (fun a o => a.put o.dst undef) (a.put (some t) (.bool (!b))))) : wpQuiet P ops C Q (o :: L) a := by
  refine wpQuiet_val _ hg hr ?_
  rw [hot]
  refine wpQuiet_nos t j b hd n L _ hL ?_ (by simpa [Act.put] using hz) h
  simp [Act.eval, Act.put, Array.getD, hz]
theorem rnext_any (w : World) {q : Nat} {V : List KE} {f : KY → Option EN} (h : RlAt w q V) (hM : Maps V f) (hR : RisD V) (hV : V.length ≤ 2199023255552) (aft : KY) (any : Bool) : Calls Try.prog 24 #[.pointer (some ⟨q, 0, none⟩), kV aft, .bool any] w (NxtC w aft any f) := by
  have HH := hide h
  have HM := hide hM
  have HRS := hide hR
  have HVL := hide hV
  have hz0 := zero_KD
  have HCmp := hide (fun w (z : KY) => rcompare_any w z aft)
  clear h hM hV hR
  go_enter Try.func24, Try.ntmps24
  go_upto_region 1 with fail
  refine name_world (fun W => Below w.heap.size w W ∧ KB W w.heap.size aft ∧ Blk W (w.heap.size + 1) (kdA kdZ) KDT ∧ RlAt W q V) ⟨(kdPair w aft).1, (kdPair w aft).2.1, (kdPair w aft).2.2, HH.out.below (kdPair w aft).1⟩ ?_
  rintro W ⟨hB, hK, hE, hL⟩
  obtain ⟨kb, hkb⟩ : ∃ kb, kb = w.heap.size := ⟨_, rfl⟩
  rw [← hkb] at hK hE ⊢
  have HKB := hide hkb
  have HB := hide hB
  have HK := hide hK
  have HE := hide hE
  have HL := hide hL
  clear hB hK hE hL hkb HH hz0
  go_upto_region 2 with fail
  go_loopw [8] (fun t wr => ∃ i : Nat, t = .int .i64 i ∧ i ≤ V.length ∧ (∀ (j : Nat) (y : KE), j < i → V[j]? = some y → ¬ okN aft any y.1) ∧ Below w.heap.size w wr ∧ KB wr kb aft ∧ Blk wr (kb + 1) (kdA kdZ) KDT ∧ RlAt wr q V) (fun t _ => V.length - (intOf t).toNat)
  case atStart => exact ⟨0, rfl, by omega, fun j y hj => by omega, HB.out, HK.out, HE.out, HL.out⟩
  case round =>
    obtain ⟨i, rfl, hi, hN, hB, hK, hE, hL⟩ := hrel
    obtain ⟨ao, n, c, hq, hnV, _, hrow⟩ := hL.open
    have HNo := hide hN
    have HB1 := hide hB
    have HK1 := hide hK
    have HE1 := hide hE
    have HL1 := hide hL
    have HRow := hide hrow
    have cq : wr.cell? ⟨q, 0, none⟩ = some (.slice ao n c) := by rw [hq.cell]; rfl
    have lq := hq.lt
    have hin : i ≤ n := by rw [hnV.out]; exact hi
    have hn2 : n ≤ 2199023255552 := by rw [hnV.out]; exact HVL.out
    have HI : Hid (i ≤ V.length) := hide hi
    clear hN hB hK hE hL hrow hq HB HK HE HL hi
    by_cases hlt : i < n
    · have hji : (i : Int) < (n : Int) := by omega
      obtain ⟨z, hz⟩ : ∃ z, V[i]? = some z := ⟨_, List.getElem?_eq_getElem (by rw [← hnV.out]; exact hlt)⟩
      obtain ⟨g, rfl, hrg⟩ := HRow.out i z hz
      have HZ := hide hz
      have HRZ := hide hrg
      have HRG := hide (range_regrown (kd_keyAt hrg))
      have HKR := hide (range_regrown HK1.out.rng)
      have cqr := fun d os => cell_regrown cq d os
      have hpi : (i : Int) < (n : Int) := hji
      clear hz hrg
      have HC2 := hide (fun w => HCmp.out w z.1)
      cases any with
      | true =>
        go_upto_region 4 with fail
        refine wp_region_quiet_below (by kernel_rfl) (by kernel_rfl) ?_
        quiet_step (fail)
        refine wpQuiet_move_nos 19 1 false 11 rfl (fun _ _ => rfl) rfl rfl ((by decide : (19 : Nat) < 40)) ?_ ?_
        · intro x hx
          simp only [List.take_succ_cons, List.take_zero, List.mem_cons, List.not_mem_nil, or_false] at hx
          rcases hx with rfl | rfl | rfl | rfl | rfl | rfl | rfl | rfl | rfl | rfl | rfl <;> exact ⟨rfl, _, rfl, by decide⟩
        simp only [List.take_succ_cons, List.take_zero, List.drop_succ_cons, List.drop_zero, List.foldl_cons, List.foldl_nil, Act.put, List.setIfInBounds_toArray, List.set_cons_zero, List.set_cons_succ]
        quiet_step (fail)
        refine wpQuiet_nil ?_
        intro w1 hw1
        have hb1 : Below wr.heap.size wr w1 := below_of hw1
        have hzw : kb ≤ wr.heap.size := by have := Blk.lt HK1.out; omega
        have HB2 := hide (HB1.out.trans (hb1.mono (by rw [← HKB.out]; exact hzw)))
        have HE2 := hide (HE1.out.below hb1 HE1.out.lt)
        have HRZ2 : Hid (w1.rangeAt g (i * 36) (kdC z)) := hide (fun j u hu => (hb1.cell (World.block_lt_of_cell? wr _ (HRZ.out j u hu))).trans (HRZ.out j u hu))
        have cq : w1.cell? ⟨q, 0, none⟩ = some (.slice (some ⟨g, 0, none⟩) n c) := by rw [hb1.cell lq]; exact cq
        have lq : q < w1.heap.size := Nat.lt_of_lt_of_le lq hb1.size
        clear hw1 hb1 hzw HB1 HK1 HE1 HL1 HRZ HRG HKR cqr HRow
        go_wp2_with (first | ((with_reducible refine wpList_ldKD ?_ (.tmp 37) ?_ g (i * 36) ?_ z HRZ2.out ?_); rfl; rfl; rfl) | ((with_reducible refine wpList_stKD ?_ (.tmp 6) (.tmp 38) ?_ (kb + 1) ?_ kdZ z ?_ HE2.out ?_); rfl; rfl; rfl; rfl; intro w4 h4 hg4))
        refine ⟨rfl, _, results_cell_tmp (p := 6) (q := 7) (ty := KDT) rfl _ _ ⟨kb + 1, 0, none⟩ rfl (kdV z) (.bool true) rfl (loadKD h4.out), ⟨some z, rfl, lst_ris HM.out HRS.out HZ.out (.inl rfl) HNo.out⟩, ?_⟩
        exact HB2.out.grown hg4.out HB2.out.size (fun j hj => by cases hj; have := HKB.out; omega)
      | false =>
        have HC3 : Hid (∀ d os, Calls Try.prog 44 #[kV z.1, kV aft] (grow (redrawn wr d) os) fun e w'' => e = .returned (.int .i64 (cmp z.1 aft)) ∧ ∃ p : Regrown, w'' = grow (redrawn wr p.d) p.os) := hide (fun d os => Calls.regrown_of (HC2.out _))
        clear HC2
        go_upto_region 4 with fail
        refine wp_region_quiet_below (by kernel_rfl) (by kernel_rfl) ?_
        iterate 9 quiet_step (fail)
        refine wpQuiet_val (kV z.1) rfl (fun w0 hw => ?_) ?_
        · obtain ⟨p0, rfl⟩ := hw
          exact run_loadO rfl rfl (run_ldK (HRG.out _ _))
        refine wpQuiet_val (kV aft) rfl (fun w0 hw => ?_) ?_
        · obtain ⟨p0, rfl⟩ := hw
          exact run_loadO rfl rfl (run_ldK (HKR.out _ _))
        quiet_step (exact HC3.out _ _)
        quiet_step (fail)
        quiet_step (fail)
        refine wpQuiet_nil ?_
        intro w1 hw1
        have hb1 : Below wr.heap.size wr w1 := below_of hw1
        have hzw : kb ≤ wr.heap.size := by have := Blk.lt HK1.out; omega
        have HB2 := hide (HB1.out.trans (hb1.mono (by rw [← HKB.out]; exact hzw)))
        have HK2 := hide (HK1.out.below hb1)
        have HE2 := hide (HE1.out.below hb1 HE1.out.lt)
        have HL2 := hide (HL1.out.below hb1)
        have HRZ2 : Hid (w1.rangeAt g (i * 36) (kdC z)) := hide (fun j u hu => (hb1.cell (World.block_lt_of_cell? wr _ (HRZ.out j u hu))).trans (HRZ.out j u hu))
        have cq : w1.cell? ⟨q, 0, none⟩ = some (.slice (some ⟨g, 0, none⟩) n c) := by rw [hb1.cell lq]; exact cq
        have lq : q < w1.heap.size := Nat.lt_of_lt_of_le lq hb1.size
        clear hw1 hb1 hzw HB1 HK1 HE1 HL1 HRZ HRG HKR cqr HRow HC3
        by_cases hgt : 0 < cmp z.1 aft
        · have HGT := hide hgt
          rw [show decide (0 < cmp z.1 aft) = true from decide_eq_true hgt]
          clear hgt
          go_wp2_with (first | ((with_reducible refine wpList_ldKD ?_ (.tmp 37) ?_ g (i * 36) ?_ z HRZ2.out ?_); rfl; rfl; rfl) | ((with_reducible refine wpList_stKD ?_ (.tmp 6) (.tmp 38) ?_ (kb + 1) ?_ kdZ z ?_ HE2.out ?_); rfl; rfl; rfl; rfl; intro w4 h4 hg4))
          refine ⟨rfl, _, results_cell_tmp (p := 6) (q := 7) (ty := KDT) rfl _ _ ⟨kb + 1, 0, none⟩ rfl (kdV z) (.bool true) rfl (loadKD h4.out), ⟨some z, rfl, lst_ris HM.out HRS.out HZ.out (.inr HGT.out) HNo.out⟩, ?_⟩
          exact HB2.out.grown hg4.out HB2.out.size (fun j hj => by cases hj; have := HKB.out; omega)
        · have HGT := hide hgt
          rw [show decide (0 < cmp z.1 aft) = false from decide_eq_false hgt]
          clear hgt
          have hi2 : Hid (i + 1 ≤ V.length) := hide (by have := hnV.out; omega)
          go_wp2
          go_roundw
          case rel => exact ⟨i + 1, by go_num, hi2.out, fun j y hj hy => by
            by_cases hji : j = i
            · rw [hji, HZ.out] at hy
              cases hy
              rintro (h | h)
              · cases h
              · exact HGT.out h
            · exact HNo.out j y (by omega) hy, HB2.out, HK2.out, HE2.out, HL2.out⟩
          case measure => have := hi2.out; simp [intOf]; omega
    · have hji : ¬ (i : Int) < (n : Int) := by omega
      have hno : Hid (∀ (j : Nat) (y : KE), V[j]? = some y → ¬ okN aft any y.1) := hide (fun j y hj => HNo.out j y (by have := (List.getElem?_eq_some_iff.1 hj).1; have := hnV.out; omega) hj)
      clear HRow
      go_wp2_with (first | (refine wpList_val (kdV kdZ) (by rfl) (run_bdD0 (by rfl) _) ?_) | ((with_reducible refine wpList_stKD ?_ (.tmp 6) (.tmp 39) ?_ (kb + 1) ?_ kdZ kdZ ?_ HE1.out ?_); rfl; rfl; rfl; rfl; intro w4 h4 hg4))
      refine ⟨rfl, _, results_cell_tmp (p := 6) (q := 7) (ty := KDT) rfl _ _ ⟨kb + 1, 0, none⟩ rfl (kdV kdZ) (.bool false) rfl (loadKD h4.out), ⟨none, rfl, lst_none HM.out hno.out⟩, ?_⟩
      exact HB1.out.grown hg4.out HB1.out.size (fun j hj => by cases hj; have := HKB.out; omega)
end TX
end Go.Proofs.Ytdigjpddmfolgaa

/- The document's index: a new list grown; pure: what Put, Del and with make of a list. -/
namespace Go.Proofs.Ytdigjpddmfolgaa
set_option linter.unusedVariables false
set_option linter.unusedSimpArgs false
namespace TX
open Go.RowKit Go.Sort
set_option maxRecDepth 100000
set_option maxHeartbeats 8000000

/-- The document's index at q has what f tells. -/
def RxA (w : World) (q : Nat) (f : KY → Option EN) (n : Nat) : Prop := ∃ V, RlAt w q V ∧ Maps V f ∧ RisD V ∧ V.length ≤ n
/-- What a call leaves of it. -/
structure RxN (w w' : World) (q : Nat) (f : KY → Option EN) (n : Nat) : Prop where
  ex : RxA w' q f n
  fr : w.grownBy w' (some q)
theorem RxA.below {w w' : World} {q n : Nat} {f : KY → Option EN} (h : RxA w q f n) (hb : Below w.heap.size w w') : RxA w' q f n := by
  obtain ⟨V, h1, h2, h3, h4⟩ := h
  exact ⟨V, h1.below hb, h2, h3, h4⟩
theorem RxA.more {w : World} {q n m : Nat} {f : KY → Option EN} (h : RxA w q f n) (hm : n ≤ m) : RxA w q f m := by
  obtain ⟨V, h1, h2, h3, h4⟩ := h
  exact ⟨V, h1, h2, h3, by omega⟩
theorem grownBy_of_below {w w' : World} (h : Below w.heap.size w w') (r : Option Nat) : w.grownBy w' r := ⟨h.os, h.tape, h.output, h.size, fun k hk _ => h.block k hk⟩
theorem RxA.nBelow {w w' : World} {q n : Nat} {f : KY → Option EN} (h : RxA w q f n) (hb : Below w.heap.size w w') : RxN w w' q f n := ⟨h.below hb, grownBy_of_below hb _⟩
/-- A new list, so far. -/
structure RwS (w0 W : World) (v : Value) (A : List KE) : Prop where
  bel : Below w0.heap.size w0 W
  ow : OwnD W w0.heap.size v A
section
variable {w0 W W' : World} {v v' : Value} {A : List KE}
theorem RwS.nil (h : Below w0.heap.size w0 W) : RwS w0 W (.slice none 0 0) [] := ⟨h, OwnD.nil _ _⟩
theorem RwS.below (h : RwS w0 W v A) (hb : Below W.heap.size W W') : RwS w0 W' v A := ⟨h.bel.trans (hb.mono h.bel.size), h.ow.below hb⟩
theorem RwS.app (h : RwS w0 W v A) {z : KE} (ho : OwnD W' w0.heap.size v' (A ++ [z])) (hg : W.grownBy W' v.ownBlock) : RwS w0 W' v' (A ++ [z]) :=
  ⟨h.bel.grown hg h.bel.size (fun k hk => (h.ow.lt hk).2), ho⟩
/-- Blocks of other types stay. -/
theorem RwS.keep (h : RwS w0 W v A) (hg : W.grownBy W' v.ownBlock) {b : Nat} {cs : Array Value} {t : TypeId} (hb : Blk W b cs t) (ht : t ≠ KDT) : Blk W' b cs t := blk_grewD h.ow hg hb ht
theorem RwS.fin (h : RwS w0 W v A) {q : Nat} {V : List KE} (hl : RlAt w0 q V) : RlAt (W.setCell ⟨q, 0, none⟩ v) q A ∧ w0.grownBy (W.setCell ⟨q, 0, none⟩ v) (some q) := by
  obtain ⟨u, h1, h2⟩ := (hl.below h.bel).ex
  have hg := grownBy_set W q 0 v
  refine ⟨⟨v, h1.set 0 v, ((h.ow.grown hg (fun g e e2 => ?_)).lower (Nat.zero_le _))⟩, grownBy_trans (grownBy_of_below h.bel _) hg⟩
  obtain ⟨cs, hc⟩ := h.ow.blk e
  rw [Option.some.inj e2] at hc
  exact blk_ne hc h1 (by decide) rfl
end
/-- Put, step by step. -/
def stp (x : KE) : Bool × List KE → KE → Bool × List KE := fun (d, A) z => if !d && decide (cmp x.1 z.1 < 0) then (true, A ++ [x] ++ [z]) else (d, A ++ [z])
def insD (x : KE) (V : List KE) (i : Nat) : Bool := ((V.take i).foldl (stp x) (false, [])).1
def insA (x : KE) (V : List KE) (i : Nat) : List KE := ((V.take i).foldl (stp x) (false, [])).2
def insV (x : KE) (V : List KE) : List KE := if insD x V V.length then insA x V V.length else insA x V V.length ++ [x]
theorem ins_next (x : KE) (V : List KE) (i : Nat) (z : KE) (hz : V[i]? = some z) : (V.take (i + 1)).foldl (stp x) (false, []) = stp x ((V.take i).foldl (stp x) (false, [])) z := by
  rw [List.take_add_one, hz, List.foldl_append]
  rfl
theorem insD_yes {x : KE} {V : List KE} {i : Nat} {z : KE} (hz : V[i]? = some z) (hd : insD x V i = true) : insD x V (i + 1) = true ∧ insA x V (i + 1) = insA x V i ++ [z] := by
  unfold insD insA at *
  rw [ins_next x V i z hz]
  generalize (V.take i).foldl (stp x) (false, []) = s at *
  obtain ⟨d, A⟩ := s
  simp only at hd
  subst hd
  unfold stp
  simp
theorem insD_now {x : KE} {V : List KE} {i : Nat} {z : KE} (hz : V[i]? = some z) (hd : insD x V i = false) (hc : cmp x.1 z.1 < 0) : insD x V (i + 1) = true ∧ insA x V (i + 1) = insA x V i ++ [x] ++ [z] := by
  unfold insD insA at *
  rw [ins_next x V i z hz]
  generalize (V.take i).foldl (stp x) (false, []) = s at *
  obtain ⟨d, A⟩ := s
  simp only at hd
  subst hd
  unfold stp
  simp [hc]
theorem insD_no {x : KE} {V : List KE} {i : Nat} {z : KE} (hz : V[i]? = some z) (hd : insD x V i = false) (hc : ¬ cmp x.1 z.1 < 0) : insD x V (i + 1) = false ∧ insA x V (i + 1) = insA x V i ++ [z] := by
  unfold insD insA at *
  rw [ins_next x V i z hz]
  generalize (V.take i).foldl (stp x) (false, []) = s at *
  obtain ⟨d, A⟩ := s
  simp only at hd
  subst hd
  unfold stp
  simp [hc]
theorem fold_true (x : KE) : ∀ (V A : List KE), V.foldl (stp x) (true, A) = (true, A ++ V)
  | [], A => by simp
  | z :: V, A => by
    rw [List.foldl_cons]
    have : stp x (true, A) z = (true, A ++ [z]) := by unfold stp; simp
    rw [this, fold_true x V]
    simp
theorem fold_split (x : KE) : ∀ (V A : List KE), RisD V → (∀ z ∈ V, z.1 ≠ x.1) → ∃ L R, V = L ++ R ∧ (∀ z ∈ L, cmp z.1 x.1 < 0) ∧ (∀ z ∈ R, cmp x.1 z.1 < 0) ∧ ((R = [] ∧ V.foldl (stp x) (false, A) = (false, A ++ L)) ∨ V.foldl (stp x) (false, A) = (true, A ++ L ++ x :: R))
  | [], A, _, _ => ⟨[], [], rfl, by simp, by simp, .inl ⟨rfl, by simp⟩⟩
  | z :: V, A, hr, hn => by
    have hr2 := List.pairwise_cons.1 hr
    by_cases hc : cmp x.1 z.1 < 0
    · refine ⟨[], z :: V, rfl, by simp, fun y hy => ?_, .inr ?_⟩
      · rcases List.mem_cons.1 hy with rfl | h
        · exact hc
        · exact cmp_trans hc (hr2.1 y h)
      · rw [List.foldl_cons]
        have : stp x (false, A) z = (true, A ++ [x] ++ [z]) := by unfold stp; simp [hc]
        rw [this, fold_true]
        simp
    · obtain ⟨L, R, e, h1, h2, h3⟩ := fold_split x V (A ++ [z]) hr2.2 (fun y hy => hn y (by simp [hy]))
      have hz : cmp z.1 x.1 < 0 := by
        rcases cmp_tri z.1 x.1 with g | g | g
        · exact g
        · exact absurd g (hn z (by simp))
        · exact absurd g hc
      refine ⟨z :: L, R, by rw [e]; rfl, fun y hy => ?_, h2, ?_⟩
      · rcases List.mem_cons.1 hy with rfl | h
        · exact hz
        · exact h1 y h
      · rw [List.foldl_cons]
        have : stp x (false, A) z = (false, A ++ [z]) := by unfold stp; simp [hc]
        rw [this]
        rcases h3 with ⟨h4, h5⟩ | h5
        · exact .inl ⟨h4, by rw [h5]; simp⟩
        · exact .inr (by rw [h5]; simp)
theorem ins_split {x : KE} {V : List KE} (hr : RisD V) (hn : ∀ z ∈ V, z.1 ≠ x.1) : ∃ L R, V = L ++ R ∧ insV x V = L ++ x :: R ∧ (∀ z ∈ L, cmp z.1 x.1 < 0) ∧ ∀ z ∈ R, cmp x.1 z.1 < 0 := by
  obtain ⟨L, R, e, h1, h2, h3⟩ := fold_split x V [] hr hn
  refine ⟨L, R, e, ?_, h1, h2⟩
  unfold insV insD insA
  rw [List.take_length]
  rcases h3 with ⟨rfl, h5⟩ | h5 <;> rw [h5] <;> simp
theorem ins_len (x : KE) (V : List KE) : ∀ i, i ≤ V.length → (insA x V i).length ≤ i + 1 ∧ (insD x V i = false → (insA x V i).length = i)
  | 0, _ => by unfold insA insD; simp
  | i + 1, hi => by
    obtain ⟨h1, h2⟩ := ins_len x V i (by omega)
    have hz : V[i]? = some (V[i]'(by omega)) := List.getElem?_eq_getElem _
    cases hd : insD x V i with
    | true =>
      obtain ⟨a, b⟩ := insD_yes hz hd
      rw [a, b]
      refine ⟨?_, fun h => by cases h⟩
      simp only [List.length_append, List.length_singleton]; omega
    | false =>
      have h3 := h2 hd
      by_cases hc : cmp x.1 (V[i]'(by omega)).1 < 0
      · obtain ⟨a, b⟩ := insD_now hz hd hc
        rw [a, b]
        refine ⟨?_, fun h => by cases h⟩
        simp only [List.length_append, List.length_singleton]; omega
      · obtain ⟨a, b⟩ := insD_no hz hd hc
        rw [a, b]
        simp only [List.length_append, List.length_singleton]
        exact ⟨by omega, fun _ => by omega⟩
theorem ins_maps {x : KE} {V : List KE} {f : KY → Option EN} (hM : Maps V f) (hr : RisD V) (hn : f x.1 = none) : Maps (insV x V) (upd f x.1 (some x.2)) ∧ RisD (insV x V) ∧ (insV x V).length = V.length + 1 := by
  have hk : ∀ z ∈ V, z.1 ≠ x.1 := fun z hz e => by
    have := (hM.mem z.1 z.2).1 hz
    rw [e, hn] at this
    cases this
  obtain ⟨L, R, e, h1, h2, h3⟩ := ins_split hr hk
  have hp : (insV x V).Perm (x :: V) := by rw [h1, e]; exact List.perm_middle
  refine ⟨(hM.lay (k := x.1) (fun h => ?_) x.2).perm hp, ?_, by rw [hp.length_eq]; rfl⟩
  · obtain ⟨z, hz, e2⟩ := List.mem_map.1 h
    exact hk z hz e2
  · rw [h1]
    have hr2 : RisD (L ++ R) := by rw [← e]; exact hr
    unfold RisD at hr2 ⊢
    rw [List.pairwise_append] at hr2 ⊢
    refine ⟨hr2.1, List.pairwise_cons.2 ⟨h3, hr2.2.1⟩, fun a ha b hb => ?_⟩
    rcases List.mem_cons.1 hb with rfl | hb
    · exact h2 a ha
    · exact hr2.2.2 a ha b hb
theorem perm_erase {V : List KE} {i : Nat} {z : KE} (hz : V[i]? = some z) : V.Perm (z :: V.eraseIdx i) := by
  obtain ⟨hi, e⟩ := List.getElem?_eq_some_iff.1 hz
  rw [List.eraseIdx_eq_take_drop_succ]
  conv => lhs; rw [← List.take_append_drop i V, List.drop_eq_getElem_cons hi, e]
  exact List.perm_middle
theorem del_maps {V : List KE} {f : KY → Option EN} (hM : Maps V f) (hr : RisD V) {i : Nat} {k : KY} {e : EN} (hz : V[i]? = some (k, e)) : Maps (V.eraseIdx i) (upd f k none) ∧ RisD (V.eraseIdx i) ∧ (V.eraseIdx i).length ≤ V.length :=
  ⟨(hM.out (perm_erase hz)).1, List.Pairwise.sublist (List.eraseIdx_sublist V i) hr, (List.eraseIdx_sublist V i).length_le⟩
theorem set_maps {V : List KE} {f : KY → Option EN} (hM : Maps V f) (hr : RisD V) {i : Nat} {k : KY} {e : EN} (hz : V[i]? = some (k, e)) (e' : EN) : Maps (V.set i (k, e')) (upd f k (some e')) ∧ RisD (V.set i (k, e')) ∧ (V.set i (k, e')).length = V.length := by
  obtain ⟨hi, ez⟩ := List.getElem?_eq_some_iff.1 hz
  have hp : (V.set i (k, e')).Perm ((k, e') :: V.eraseIdx i) := by
    have h1 : (V.set i (k, e'))[i]? = some (k, e') := by rw [List.getElem?_set_self hi]
    have h2 := perm_erase h1
    have h3 : (V.set i (k, e')).eraseIdx i = V.eraseIdx i := by
      rw [List.eraseIdx_eq_take_drop_succ, List.eraseIdx_eq_take_drop_succ, List.take_set_of_le (Nat.le_refl _), List.drop_set_of_lt (by omega)]
    rw [h3] at h2
    exact h2
  obtain ⟨h1, _, h3⟩ := hM.out (perm_erase hz)
  have h4 := h1.lay h3 e'
  rw [upd_upd] at h4
  refine ⟨h4.perm hp, ?_, List.length_set⟩
  have hk : (V.set i (k, e')).map Prod.fst = V.map Prod.fst := by
    rw [List.map_set]
    apply List.ext_getElem?
    intro j
    by_cases hj : j = i
    · subst hj
      rw [List.getElem?_set_self (by simpa using hi), List.getElem?_map, hz]
      rfl
    · rw [List.getElem?_set_ne (Ne.symm hj)]
  have h5 : (V.map Prod.fst).Pairwise (fun a b => cmp a b < 0) := List.pairwise_map.2 hr
  rw [← hk] at h5
  exact List.pairwise_map.1 h5
/-- Del and with, step by step. -/
theorem erase_next {V : List KE} {i j : Nat} {z : KE} (hz : V[j]? = some z) (hne : j ≠ i) : (V.take (j + 1)).eraseIdx i = (V.take j).eraseIdx i ++ [z] := by
  have hj := (List.getElem?_eq_some_iff.1 hz).1
  have hl : (V.take j).length = j := by rw [List.length_take]; omega
  rw [List.take_add_one, hz]
  rcases Nat.lt_or_ge i j with h | h
  · rw [List.eraseIdx_append_of_lt_length (by omega)]; rfl
  · rw [List.eraseIdx_append_of_length_le (by omega), List.eraseIdx_of_length_le (l := V.take j) (by omega)]
    congr 1
    show [z].eraseIdx (i - (V.take j).length) = [z]
    rw [List.eraseIdx_of_length_le (by simp; omega)]
theorem erase_skip {V : List KE} {i : Nat} {z : KE} (hz : V[i]? = some z) : (V.take (i + 1)).eraseIdx i = (V.take i).eraseIdx i := by
  have hj := (List.getElem?_eq_some_iff.1 hz).1
  have hl : (V.take i).length = i := by rw [List.length_take]; omega
  rw [List.take_add_one, hz, List.eraseIdx_append_of_length_le (by omega), List.eraseIdx_of_length_le (l := V.take i) (by omega), hl, Nat.sub_self]
  simp
theorem set_next {V : List KE} {i j : Nat} {x z : KE} (hz : V[j]? = some z) (hne : j ≠ i) : (V.take (j + 1)).set i x = (V.take j).set i x ++ [z] := by
  have hj := (List.getElem?_eq_some_iff.1 hz).1
  have hl : (V.take j).length = j := by rw [List.length_take]; omega
  rw [List.take_add_one, hz, List.set_append]
  rcases Nat.lt_or_ge i j with h | h
  · rw [if_pos (by omega)]; rfl
  · rw [if_neg (by omega), List.set_eq_of_length_le (l := V.take j) (by omega)]
    congr 1
    show [z].set (i - (V.take j).length) x = [z]
    rw [List.set_eq_of_length_le (by simp; omega)]
theorem set_here {V : List KE} {i : Nat} {x z : KE} (hz : V[i]? = some z) : (V.take (i + 1)).set i x = (V.take i).set i x ++ [x] := by
  have hj := (List.getElem?_eq_some_iff.1 hz).1
  have hl : (V.take i).length = i := by rw [List.length_take]; omega
  rw [List.take_add_one, hz, List.set_append, if_neg (by omega), hl, Nat.sub_self, List.set_eq_of_length_le (l := V.take i) (by omega)]
  rfl
end TX
end Go.Proofs.Ytdigjpddmfolgaa
