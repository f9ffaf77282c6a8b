/- Next: what the least is (pure); a key with its entry, in memory; what is deferred, at the end. -/
import Derived.Test.YtdigjpddmfolgaaIB
import Derived.Test.YtdigjpddmfolgaaXV
import Derived.Test.YtdigjpddmfolgaaKRF3
namespace Go.Proofs.Ytdigjpddmfolgaa
set_option linter.unusedVariables false
set_option linter.unusedSimpArgs false
namespace TX
open Go.RowKit
set_option maxRecDepth 100000

abbrev KDT : TypeId := 57
abbrev BT : TypeId := 4
def kdC (x : KY × EN) : List Value := kC x.1 ++ eC x.2
def kdA (x : KY × EN) : Array Value := (kdC x).toArray
abbrev kdV (x : KY × EN) : Value := .agg (kdA x)
def kdZ : KY × EN := (kZ, eZ)
theorem kdC_len (x : KY × EN) : (kdC x).length = 36 := by simp [kdC, kC_len, eC_len]
theorem kdA_size (x : KY × EN) : (kdA x).size = 36 := by simp [kdA, kdC_len]
theorem kdC_one (x : KY × EN) : ∀ v ∈ kdC x, v.oneCell' = true := by
  intro v hv
  rcases List.mem_append.1 hv with h | h
  · exact kC_one _ v h
  · exact eC_one _ v h
theorem iKD : (Try.prog.info? KDT).map (·.size) = some 36 := by kernel_rfl
theorem run_ldKD {w : World} {b : Nat} {x : KY × EN} (h : Blk w b (kdA x) KDT) : (Instr.loadAt KDT (.pointer (some ⟨b, 0, none⟩))).run Try.prog w = .ok (kdV x) w :=
  run_loadAt_mid (P := Try.prog) w b 0 KDT (kdC x) _ (Blk.range h) Try.underlying57 rfl (by rw [kdC_len]; exact iKD)
theorem run_stKD {w : World} {b : Nat} {u : KY × EN} (h : Blk w b (kdA u) KDT) (x : KY × EN) : (Instr.storeAt KDT (.pointer (some ⟨b, 0, none⟩)) (kdV x)).run Try.prog w = .ok () (w.setCells b 0 (kdC x)) :=
  run_storeAt_mid (P := Try.prog) w b 0 KDT (kdA x) (there_row h 0 _ (by rw [kdA_size, kdA_size]; omega)) (by rw [kdA_size]; exact iKD) (all_oneCell_toArray (kdC_one x))
theorem KD.put {w : World} {b : Nat} {u : KY × EN} (h : Blk w b (kdA u) KDT) (x : KY × EN) : Blk (w.setCells b 0 (kdC x)) b (kdA x) KDT ∧ w.grownBy (w.setCells b 0 (kdC x)) (some b) :=
  setCells_blk h (kdA x) (by rw [kdA_size, kdA_size])
theorem zero_KD (W : World) : (zeroValue KDT).run Try.prog W = .ok (.agg (kdA kdZ)) W := by kernel_rfl
theorem run_bdKD {op : Oper} {ev : Operand → Value} {x y : Operand} (ho : op.op = .build KDT #[(0, x), (1, y)]) (k : KY) (e : EN) (hx : ev x = kV k) (hy : ev y = eV e) (w : World) : (execOp ev op).run Try.prog w = .ok (.value (kdV (k, e))) w := by
  simp only [execOp, ho]
  simp only [List.map_toArray, List.map_cons, List.map_nil, hx, hy]
  obtain ⟨bs, hk⟩ := k
  obtain ⟨a0, a1, a2, a3, a4, a5, a6, a7, a8, a9, a10, a11, a12, a13, a14, a15, a16, a17, a18, a19, a20, a21, a22, a23, a24, a25, a26, a27, a28, a29, a30, a31, rfl⟩ := list32 hk
  obtain ⟨s, o, z, p⟩ := e
  kernel_rfl
theorem KD.key {w : World} {b : Nat} {x : KY × EN} (h : Blk w b (kdA x) KDT) : w.rangeAt b 0 (kC x.1) := fun j v hj => by
  rw [Nat.zero_add, Blk.cell h, kdA, kdC, List.getElem?_toArray, List.getElem?_append_left (List.getElem?_eq_some_iff.1 hj).1]
  exact hj
theorem kC_head (k : KY) : (kC k)[0]? = some (.int .u8 (bt k 0 : Int)) := by
  have hl : 0 < k.bs.length := by rw [k.l32]; decide
  simp [kC, hl, bt, u8c]
theorem KD.head {w : World} {b : Nat} {x : KY × EN} (h : Blk w b (kdA x) KDT) : w.cell? ⟨b, 0, none⟩ = some (.int .u8 (bt x.1 0 : Int)) := KD.key h 0 _ (kC_head _)
theorem KB.head {w : World} {b : Nat} {k : KY} (h : KB w b k) : w.cell? ⟨b, 0, none⟩ = some (.int .u8 (bt k 0 : Int)) := h.rng 0 _ (kC_head _)
theorem cmp_hd {a b : KY} (h : bt a 0 < bt b 0) : cmp a b < 0 := by
  refine cmp_head ?_
  obtain ⟨la, ha⟩ := a
  obtain ⟨lb, hb⟩ := b
  cases la with
  | nil => simp at ha
  | cons x xs =>
    cases lb with
    | nil => simp at hb
    | cons y ys => simpa [bt, k0] using h
/-- May a key be told? -/
def okN (aft : KY) (any : Bool) (k : KY) : Prop := any = true ∨ 0 < cmp k aft
/-- The least of those that may be. -/
def Lst (aft : KY) (any : Bool) (S : KY → EN → Prop) : Option (KY × EN) → Prop
  | none => ∀ k e, S k e → ¬ okN aft any k
  | some (k, e) => S k e ∧ okN aft any k ∧ ∀ k' e', S k' e' → okN aft any k' → k' = k ∨ cmp k k' < 0
section
variable {aft : KY} {any : Bool} {S S' : KY → EN → Prop} {fo : Option (KY × EN)} {k : KY} {e : EN}
theorem Lst.congr (h : Lst aft any S fo) (hs : ∀ k e, S k e ↔ S' k e) : Lst aft any S' fo := by
  cases fo with
  | none => exact fun k e hk => h k e ((hs k e).2 hk)
  | some x => exact ⟨(hs _ _).1 h.1, h.2.1, fun k e hk => h.2.2 k e ((hs k e).2 hk)⟩
theorem Lst.no (h : Lst aft any S fo) (hk : ¬ okN aft any k) : Lst aft any (fun a b => S a b ∨ (a, b) = (k, e)) fo := by
  cases fo with
  | none =>
    intro a b hab
    rcases hab with h1 | h1
    · exact h a b h1
    · cases h1; exact hk
  | some x =>
    refine ⟨.inl h.1, h.2.1, fun a b hab hok => ?_⟩
    rcases hab with h1 | h1
    · exact h.2.2 a b h1 hok
    · cases h1; exact absurd hok hk
theorem Lst.skip {l : KY} {m : EN} (h : Lst aft any S (some (l, m))) (hk : ¬ cmp k l < 0) : Lst aft any (fun a b => S a b ∨ (a, b) = (k, e)) (some (l, m)) := by
  refine ⟨.inl h.1, h.2.1, fun a b hab hok => ?_⟩
  rcases hab with h1 | h1
  · exact h.2.2 a b h1 hok
  · cases h1
    rcases cmp_tri k l with g | g | g
    · exact absurd g hk
    · exact .inl g
    · exact .inr g
theorem Lst.first (h : Lst aft any S none) (hk : okN aft any k) : Lst aft any (fun a b => S a b ∨ (a, b) = (k, e)) (some (k, e)) := by
  refine ⟨.inr rfl, hk, fun a b hab hok => ?_⟩
  rcases hab with h1 | h1
  · exact absurd hok (h a b h1)
  · cases h1; exact .inl rfl
theorem Lst.take {l : KY} {m : EN} (h : Lst aft any S (some (l, m))) (hk : okN aft any k) (hl : cmp k l < 0) : Lst aft any (fun a b => S a b ∨ (a, b) = (k, e)) (some (k, e)) := by
  refine ⟨.inr rfl, hk, fun a b hab hok => ?_⟩
  rcases hab with h1 | h1
  · rcases h.2.2 a b h1 hok with g | g
    · subst g; exact .inr hl
    · exact .inr (cmp_trans hl g)
  · cases h1; exact .inl rfl
end
/-- What the tables gone through have. -/
def Seen (f : KY → Option EN) (a i : Nat) : KY → EN → Prop := fun k e => f k = some e ∧ ∃ j, j < i ∧ sh k = (a + j) % 16
theorem Lst.begin (aft : KY) (any : Bool) (f : KY → Option EN) (a : Nat) : Lst aft any (Seen f a 0) none := fun k e h => by
  obtain ⟨_, j, hj, _⟩ := h
  omega
theorem seen_step {f : KY → Option EN} {a i : Nat} {A : List (KY × EN)} (hA : Maps A (gsh f ((a + i) % 16))) (k : KY) (e : EN) : (Seen f a i k e ∨ (k, e) ∈ A) ↔ Seen f a (i + 1) k e := by
  rw [hA.mem]
  unfold gsh Seen
  constructor
  · rintro (⟨h1, j, h2, h3⟩ | h)
    · exact ⟨h1, j, by omega, h3⟩
    · by_cases hs : sh k = (a + i) % 16
      · rw [if_pos hs] at h; exact ⟨h, i, by omega, hs⟩
      · rw [if_neg hs] at h; cases h
  · rintro ⟨h1, j, h2, h3⟩
    by_cases hj : j = i
    · subst hj
      right
      rw [if_pos h3]; exact h1
    · exact .inl ⟨h1, j, by omega, h3⟩
theorem seen_all {f : KY → Option EN} {a : Nat} (k : KY) (e : EN) : Seen f a 16 k e ↔ f k = some e := by
  constructor
  · exact fun h => h.1
  · intro h
    have := sh_lt k
    exact ⟨h, (sh k + 16 - a % 16) % 16, Nat.mod_lt _ (by decide), by omega⟩
/-- The first byte that may be. -/
def frs (aft : KY) (any : Bool) : Nat := if any then 0 else bt aft 0
theorem frs_lt (aft : KY) (any : Bool) : frs aft any < 256 := by
  unfold frs
  split
  · decide
  · exact bt_lt aft 0
theorem Lst.early {aft : KY} {any : Bool} {f : KY → Option EN} {i : Nat} {k : KY} {e : EN} (h : Lst aft any (Seen f (frs aft any) i) (some (k, e))) (hlt : bt k 0 < frs aft any + i) (hi : i ≤ 16) : Lst aft any (fun k e => f k = some e) (some (k, e)) := by
  refine ⟨h.1.1, h.2.1, fun k' e' hf hok => ?_⟩
  by_cases hs : ∃ j, j < i ∧ sh k' = (frs aft any + j) % 16
  · exact h.2.2 k' e' ⟨hf, hs⟩ hok
  · right
    refine cmp_hd ?_
    have hge : frs aft any ≤ bt k' 0 := by
      unfold frs
      split
      · exact Nat.zero_le _
      · rename_i hn
        rcases hok with h1 | h1
        · exact absurd h1 hn
        · rcases Nat.lt_or_ge (bt k' 0) (bt aft 0) with g | g
          · have := cmp_hd g; omega
          · exact g
    have hne : ¬ (bt k' 0 < frs aft any + i) := fun hl => hs ⟨bt k' 0 - frs aft any, by omega, by unfold sh; congr 1; omega⟩
    omega
/-- What is deferred at the loops' ends is taken over, mark by mark. -/
def marks (Ds : List Nat) : List Deferred := Ds.map fun D => { target := .collected D, args := #[] }
theorem leave_marks {F : Fence} {n : Nat} {P : Program} {fn : Func} {tmps : Array Value} {R : Ending → World → Prop} {N : Nat} (w : World) : ∀ (Ds : List Nat) (W : World), Ds.Nodup → (∀ D ∈ Ds, N ≤ D ∧ W.heap[D]? = some (.deferred (some []))) → Below N w W →
    (∀ W', Below N w W' → (∀ k, k ∉ Ds → W'.heap[k]? = W.heap[k]?) → LeavesInM F n P fn tmps R [] .returning W') → LeavesInM F n P fn tmps R (marks Ds) .returning W
  | [], W, _, _, hb, hR => hR W hb (fun _ _ => rfl)
  | D :: Ds, W, hnd, hD, hb, hR => by
    obtain ⟨h1, h2⟩ := hD D (List.mem_cons_self ..)
    refine ⟨by simp, .inl ⟨D, _, rfl, run_takeDeferred h2, ?_⟩⟩
    refine leave_marks w Ds _ (List.nodup_cons.1 hnd).2 (fun D' h' => ?_) (below_put hb D _ h1) (fun W' hb' hs => ?_)
    · obtain ⟨g1, g2⟩ := hD D' (List.mem_cons_of_mem _ h')
      exact ⟨g1, (World.putObj_heap_other (fun e : D' = D => (List.nodup_cons.1 hnd).1 (by rw [← e]; exact h'))).trans g2⟩
    · refine hR W' hb' (fun k hk => ?_)
      exact (hs k (fun h => hk (List.mem_cons_of_mem _ h))).trans (World.putObj_heap_other (fun e : k = D => hk (by rw [e]; exact List.mem_cons_self ..)))
end TX
end Go.Proofs.Ytdigjpddmfolgaa

/- Next: its state between two rounds; steps within a round. -/
namespace Go.Proofs.Ytdigjpddmfolgaa
set_option linter.unusedVariables false
set_option linter.unusedSimpArgs false
namespace TX
open Go.RowKit
set_option maxRecDepth 100000

section
variable {F : Fence} {n : Nat} {ops : Array Oper} {rest : List Oper} {op : Oper} {a : Act} {w : World} {Q : Exit → Act → World → Prop}
theorem setCells_sz (b : Nat) : ∀ (vs : List Value) (o : Nat) (w : World), (w.setCells b o vs).heap.size = w.heap.size
  | [], _, _ => rfl
  | v :: vs, o, w => by
    show ((w.setCell ⟨b, o, none⟩ v).setCells b (o + 1) vs).heap.size = _
    rw [setCells_sz b vs]; simp
/-- A value of some cells is stored into memory that has just been laid. -/
theorem wpListIn_putX {t : TypeId} {m : Nat} (hgd : op.guard = none) (x y : Operand) (ho : op.op = .store t x y) (z : Nat) (hx : a.eval x = .pointer (some ⟨z, 0, none⟩)) (w0 : World) (old cs : Array Value) (hw : w = w0.alloc (.cells old t)) (hz : z = w0.heap.size) (hy : a.eval y = .agg cs)
    (h0 : old.size = m) (h1 : cs.size = m) (hi : (Try.prog.info? t).map (·.size) = some m) (hc : ∀ v ∈ cs.toList, v.oneCell' = true)
    (h : ∀ w', Hid (Blk w' z cs t) → Below w0.heap.size w0 w' → w'.heap.size = w0.heap.size + 1 → wpListIn F n Try.prog ops Q rest (a.put op.dst undef) w') : wpListIn F n Try.prog ops Q (op :: rest) a w := by
  subst hw hz
  have hk := Blk.made w0 old t
  obtain ⟨k1, k2⟩ := setCells_blk hk cs (by rw [h0, h1])
  refine wpListIn_plain hgd fun K' hK' => ?_
  unfold Oper.wpIn
  refine ⟨by simp [Oper.about, ho], ?_⟩
  have hr : (execOp a.eval op).run Try.prog (w0.alloc (.cells old t)) = .ok .skip ((w0.alloc (.cells old t)).setCells w0.heap.size 0 cs.toList) := by
    have hst := run_storeAt_mid (P := Try.prog) (w0.alloc (.cells old t)) w0.heap.size 0 t cs (there_row hk 0 _ (by rw [h0, h1]; omega)) (by rw [h1]; exact hi) (by have := all_oneCell_toArray hc; simpa using this)
    simp only [execOp, ho, hx, hy, Sem.run_bind, hst, Result.andThen_ok, Sem.run_pure]
  rw [Oper.semAt_plain F _ _ (by rw [ho]; intro c hc'; cases hc'), hr]
  exact hK' _ _ (h _ (hide k1) (below_grownBy (grownBy_trans (World.grownBy_alloc _ _ _) k2) (Nat.le_refl _) (Nat.le_refl _)) (by rw [setCells_sz]; simp))
theorem wpListIn_putK (hgd : op.guard = none) (x y : Operand) (ho : op.op = .store KT x y) (z : Nat) (hx : a.eval x = .pointer (some ⟨z, 0, none⟩)) (w0 : World) (hw : w = w0.alloc (.cells (kA kZ) KT)) (hz : z = w0.heap.size) (k : KY) (hy : a.eval y = kV k)
    (h : ∀ w', Hid (KB w' z k) → Below w0.heap.size w0 w' → w'.heap.size = w0.heap.size + 1 → wpListIn F n Try.prog ops Q rest (a.put op.dst undef) w') : wpListIn F n Try.prog ops Q (op :: rest) a w :=
  wpListIn_putX (m := 32) hgd x y ho z hx w0 (kA kZ) (kA k) hw hz hy (kA_size _) (kA_size _) iK (kC_one k) h
theorem wpListIn_putE (hgd : op.guard = none) (x y : Operand) (ho : op.op = .store ET x y) (z : Nat) (hx : a.eval x = .pointer (some ⟨z, 0, none⟩)) (w0 : World) (hw : w = w0.alloc (.cells (eA eZ) ET)) (hz : z = w0.heap.size) (e : EN) (hy : a.eval y = eV e)
    (h : ∀ w', Hid (EB w' z e) → Below w0.heap.size w0 w' → w'.heap.size = w0.heap.size + 1 → wpListIn F n Try.prog ops Q rest (a.put op.dst undef) w') : wpListIn F n Try.prog ops Q (op :: rest) a w :=
  wpListIn_putX (m := 4) hgd x y ho z hx w0 (eA eZ) (eA e) hw hz hy (eA_size _) (eA_size _) iE (eC_one e) h
/-- A key with its entry is built, is stored. -/
theorem wpListIn_bdKD (hgd : op.guard = none) (x y : Operand) (ho : op.op = .build KDT #[(0, x), (1, y)]) (k : KY) (e : EN) (hx : a.eval x = kV k) (hy : a.eval y = eV e)
    (h : wpListIn F n Try.prog ops Q rest (a.put op.dst (kdV (k, e))) w) : wpListIn F n Try.prog ops Q (op :: rest) a w := by
  refine wpListIn_plain hgd fun K' hK' => ?_
  unfold Oper.wpIn
  refine ⟨by simp [Oper.about, ho], ?_⟩
  rw [Oper.semAt_plain F _ _ (by rw [ho]; intro c hc'; cases hc'), run_bdKD ho k e hx hy w]
  exact hK' _ _ h
theorem run_stoKD {ev : Operand → Value} (x y : Operand) (ho : op.op = .store KDT x y) (b : Nat) (hx : ev x = .pointer (some ⟨b, 0, none⟩)) (u v : KY × EN) (hy : ev y = kdV v) (hb : Blk w b (kdA u) KDT) : (execOp ev op).run Try.prog w = .ok .skip (w.setCells b 0 (kdC v)) := by
  simp only [execOp, ho, hx, hy, Sem.run_bind, run_stKD hb v, Result.andThen_ok, Sem.run_pure]
theorem wpListIn_stKD (hgd : op.guard = none) (x y : Operand) (ho : op.op = .store KDT x y) (b : Nat) (hx : a.eval x = .pointer (some ⟨b, 0, none⟩)) (u v : KY × EN) (hy : a.eval y = kdV v) (hb : Blk w b (kdA u) KDT)
    (h : ∀ w', Hid (Blk w' b (kdA v) KDT) → Hid (w.grownBy w' (some b)) → wpListIn F n Try.prog ops Q rest (a.put op.dst undef) w') : wpListIn F n Try.prog ops Q (op :: rest) a w := by
  refine wpListIn_plain hgd fun K' hK' => ?_
  unfold Oper.wpIn
  refine ⟨by simp [Oper.about, ho], ?_⟩
  rw [Oper.semAt_plain F _ _ (by rw [ho]; intro c hc'; cases hc'), run_stoKD x y ho b hx u v hy hb]
  exact hK' _ _ (h _ (hide (KD.put hb v).1) (hide (KD.put hb v).2))
theorem wpList_stKD (hgd : op.guard = none) (x y : Operand) (ho : op.op = .store KDT x y) (b : Nat) (hx : a.eval x = .pointer (some ⟨b, 0, none⟩)) (u v : KY × EN) (hy : a.eval y = kdV v) (hb : Blk w b (kdA u) KDT)
    (h : ∀ w', Hid (Blk w' b (kdA v) KDT) → Hid (w.grownBy w' (some b)) → wpList Try.prog ops Q rest (a.put op.dst undef) w') : wpList Try.prog ops Q (op :: rest) a w :=
  wpList_skip _ hgd (run_stoKD x y ho b hx u v hy hb) (h _ (hide (KD.put hb v).1) (hide (KD.put hb v).2))
end
theorem zero_K (W : World) : (zeroValue KT).run Try.prog W = .ok (.agg (kA kZ)) W := by kernel_rfl
theorem Blk.kept {W W' : World} {b : Nat} {cs : Array Value} {t : TypeId} {row : Option Nat} (h : Blk W b cs t) (hg : W.grownBy W' row) (hr : ∀ r, row = some r → ∃ o : Obj, W.heap[r]? = some o ∧ o.isCells = false) : Blk W' b cs t :=
  h.grown hg (fun e => by
    obtain ⟨o, h1, h2⟩ := hr b e.symm
    have h3 := h
    unfold Blk at h3
    rw [h3] at h1
    cases h1
    cases h2)
/-- Between two rounds. -/
structure NxS (w : World) (N : Nat) (aft : KY) (any : Bool) (Ds : List Nat) (fo : Option (KY × EN)) (W : World) : Prop where
  kb : KB W N aft
  ab : Blk W (N + 1) #[.bool any] BT
  rb : Blk W (N + 2) (kdA kdZ) KDT
  lb : Blk W (N + 3) (kdA (fo.getD kdZ)) KDT
  fb : Blk W (N + 4) #[.bool fo.isSome] BT
  bel : Below N w W
  nd : Ds.Nodup
  df : ∀ D ∈ Ds, N ≤ D ∧ W.heap[D]? = some (.deferred (some []))
section
variable {w W W' : World} {N : Nat} {aft : KY} {any : Bool} {Ds : List Nat} {fo : Option (KY × EN)}
theorem NxS.sz (h : NxS w N aft any Ds fo W) : N + 5 ≤ W.heap.size := by have := Blk.lt h.fb; omega
theorem NxS.below (h : NxS w N aft any Ds fo W) (hb : Below W.heap.size W W') : NxS w N aft any Ds fo W' :=
  ⟨h.kb.below hb, h.ab.below hb h.ab.lt, h.rb.below hb h.rb.lt, h.lb.below hb h.lb.lt, h.fb.below hb h.fb.lt, h.bel.trans (hb.mono (by have := h.sz; omega)), h.nd, fun D hD => ⟨(h.df D hD).1, heap_grows hb (h.df D hD).2⟩⟩
theorem NxS.kept {C : Nat} {row : Option Nat} (h : NxS w N aft any Ds fo W) (hC : N ≤ C) (hg : W.grownBy W' row) (hr : ∀ r, row = some r → C ≤ r ∧ ∃ o : Obj, W.heap[r]? = some o ∧ o.isCells = false) (hD : ∀ D ∈ Ds, row ≠ some D) : NxS w N aft any Ds fo W' := by
  have hr2 : ∀ r, row = some r → ∃ o : Obj, W.heap[r]? = some o ∧ o.isCells = false := fun r e => (hr r e).2
  have hs := h.sz
  exact ⟨Blk.kept h.kb hg hr2, Blk.kept h.ab hg hr2, Blk.kept h.rb hg hr2, Blk.kept h.lb hg hr2, Blk.kept h.fb hg hr2,
    ⟨hg.os.trans h.bel.os, hg.tape.trans h.bel.tape, hg.output.trans h.bel.output, Nat.le_trans h.bel.size hg.size, fun i hi => (hg.block i (by omega) (fun e => by have := (hr i e.symm).1; omega)).trans (h.bel.block i hi)⟩,
    h.nd, fun D hDm => ⟨(h.df D hDm).1, (hg.block D (Array.getElem?_eq_some_iff.1 (h.df D hDm).2).1 (fun e => hD D hDm e.symm)).trans (h.df D hDm).2⟩⟩
theorem NxS.own {S : List (KY × EN) → KY → EN → Prop} {C : Nat} (hC : N ≤ C) (hD : ∀ D ∈ Ds, D < C) : OwnFrom C (fun pre W => ∃ fo, NxS w N aft any Ds fo W ∧ Lst aft any (S pre) fo) :=
  fun s A B row ⟨fo, h, h0⟩ hg hr => ⟨fo, h.kept hC hg hr (fun D hm e => by have := (hr D e).1; have := hD D hm; omega), h0⟩
theorem NxS.putLoop (h : NxS w N aft any Ds fo W) {l : Nat} {q : Loop} (hl : W.heap[l]? = some (.loop q)) (o' : Obj) (hN : N ≤ l) : NxS w N aft any Ds fo (W.putObj l o') :=
  h.kept hN (grownBy_putObj' W l o') (fun r e => by cases e; exact ⟨Nat.le_refl _, _, hl, rfl⟩) (fun D hm e => by
    have := (h.df D hm).2
    rw [← Option.some.inj e, hl] at this
    cases this)
/-- Another one is the least so far. -/
theorem NxS.take (h : NxS w N aft any Ds fo W) (x : KY × EN) {w4 : World} (h1 : Blk w4 (N + 3) (kdA x) KDT) (hg : W.grownBy w4 (some (N + 3))) :
    Blk w4 (N + 4) #[.bool fo.isSome] BT ∧ NxS w N aft any Ds (some x) (w4.setCell ⟨N + 4, 0, none⟩ (.bool true)) ∧ KeepsLD W (w4.setCell ⟨N + 4, 0, none⟩ (.bool true)) ∧ KeepT tys W (w4.setCell ⟨N + 4, 0, none⟩ (.bool true)) := by
  have hs := h.sz
  have ne3 : ∀ b, b ≠ N + 3 → some b ≠ some (N + 3) := fun b hb e => hb (Option.some.inj e)
  have ne4 : ∀ b, b ≠ N + 4 → some b ≠ some (N + 4) := fun b hb e => hb (Option.some.inj e)
  have hf := h.fb.grown hg (ne3 _ (by omega))
  have hg2 := grownBy_set w4 (N + 4) 0 (.bool true)
  have dne : ∀ D ∈ Ds, D ≠ N + 3 ∧ D ≠ N + 4 := fun D hD => by
    have h2 := (h.df D hD).2
    refine ⟨fun e => ?_, fun e => ?_⟩
    · have h3 := h.lb
      unfold Blk at h3
      rw [e, h3] at h2
      cases h2
    · have h3 := h.fb
      unfold Blk at h3
      rw [e, h3] at h2
      cases h2
  have kl : KeepsLD W w4 := KeepsLD.grown hg (fun q e => by have h3 := h.lb; unfold Blk at h3; rw [h3] at e; cases e) (fun q e => by have h3 := h.lb; unfold Blk at h3; rw [h3] at e; cases e)
  have kl2 : KeepsLD w4 (w4.setCell ⟨N + 4, 0, none⟩ (.bool true)) := KeepsLD.grown hg2 (fun q e => by have h3 := hf; unfold Blk at h3; rw [h3] at e; cases e) (fun q e => by have h3 := hf; unfold Blk at h3; rw [h3] at e; cases e)
  refine ⟨hf, ⟨(Blk.grown h.kb hg (ne3 _ (by omega))).grown hg2 (ne4 _ (by omega)), (h.ab.grown hg (ne3 _ (by omega))).grown hg2 (ne4 _ (by omega)), (h.rb.grown hg (ne3 _ (by omega))).grown hg2 (ne4 _ (by omega)), h1.grown hg2 (ne4 _ (by omega)), hf.set 0 (.bool true), ?_, h.nd, fun D hD => ⟨(h.df D hD).1, kl2.df _ _ (kl.df _ _ (h.df D hD).2)⟩⟩, kl.trans kl2, ?_⟩
  · refine ⟨hg2.os.trans (hg.os.trans h.bel.os), hg2.tape.trans (hg.tape.trans h.bel.tape), hg2.output.trans (hg.output.trans h.bel.output), Nat.le_trans h.bel.size (Nat.le_trans hg.size hg2.size), fun i hi => ?_⟩
    have hsz := hg.size
    exact ((hg2.block i (by omega) (ne4 _ (by omega))).trans (hg.block i (by omega) (ne3 _ (by omega)))).trans (h.bel.block i hi)
  · exact (KeepT.grown hg (fun r e => by cases e; exact ⟨_, _, _, h.lb, by decide⟩)).trans (KeepT.grown hg2 (fun r e => by cases e; exact ⟨_, _, _, hf, by decide⟩))
end
/-- Ahead of the walk. -/
structure NxA (w : World) (N : Nat) (aft : KY) (any : Bool) (W : World) : Prop where
  kb : KB W N aft
  ab : Blk W (N + 1) #[.bool any] BT
  rb : Blk W (N + 2) (kdA kdZ) KDT
  lb : Blk W (N + 3) (kdA kdZ) KDT
  bel : Below N w W
  sz : W.heap.size = N + 4
theorem nxA_made (w : World) (aft : KY) (any : Bool) : NxA w w.heap.size aft any ((((w.alloc (.cells (kA aft) KT)).alloc (.cells #[.bool any] BT)).alloc (.cells (kdA kdZ) KDT)).alloc (.cells (kdA kdZ) KDT)) := by
  have b2 := Blk.made (w.alloc (.cells (kA aft) KT)) #[.bool any] BT
  have b3 := Blk.made ((w.alloc (.cells (kA aft) KT)).alloc (.cells #[.bool any] BT)) (kdA kdZ) KDT
  have b4 := Blk.made (((w.alloc (.cells (kA aft) KT)).alloc (.cells #[.bool any] BT)).alloc (.cells (kdA kdZ) KDT)) (kdA kdZ) KDT
  simp only [World.size_alloc, Nat.add_assoc, Nat.reduceAdd] at b2 b3 b4
  refine ⟨(((Blk.made w (kA aft) KT).alloc _).alloc _).alloc _, (b2.alloc _).alloc _, b3.alloc _, b4, ?_, by simp⟩
  exact ((((Below.refl _ w).alloc (Nat.le_refl _) _).alloc (by simp) _).alloc (by simp; omega) _).alloc (by simp; omega) _
theorem NxA.begin {w W : World} {N : Nat} {aft : KY} {any : Bool} (h : NxA w N aft any W) : NxS w N aft any [] none (W.alloc (.cells #[.bool false] BT)) := by
  have hb := Blk.made W #[.bool false] BT
  rw [h.sz] at hb
  have hs := h.sz
  exact ⟨Blk.alloc h.kb _, h.ab.alloc _, h.rb.alloc _, h.lb.alloc _, hb, h.bel.alloc (by omega) _, List.nodup_nil, fun D hD => by cases hD⟩
theorem name_worldInK' {F : Fence} {n : Nat} {P : Program} {c : Code} {a : Act} {w : World} {Q : World → Exit → Act → World → Prop} (R : World → Prop) (h : R w) (k : ∀ W, R W → c.wpIn F n P (Q W) a W) : c.wpIn F n P (Q w) a w := k w h
/-- What Next leaves. -/
def NxtC (w : World) (aft : KY) (any : Bool) (f : KY → Option EN) (e : Ending) (w' : World) : Prop :=
  (∃ fo : Option (KY × EN), e = .returned (.tuple #[kdV (fo.getD kdZ), .bool fo.isSome]) ∧ Lst aft any (fun k e => f k = some e) fo) ∧ Below w.heap.size w w'
theorem loadKD {w : World} {b : Nat} {x : KY × EN} (h : Blk w b (kdA x) KDT) : (loadVar KDT ⟨b, 0, none⟩).run Try.prog w = .ok (kdV x) w :=
  run_loadVar_mid (P := Try.prog) w b 0 KDT (kdC x) _ (Blk.range h) Try.underlying57 rfl (by rw [kdC_len]; exact iKD)
theorem nx_end {fn : Func} (hres : fn.results = #[.cell 6 KDT, .tmp 7]) {tmps : Array Value} {w w1 w4 : World} {N : Nat} {aft : KY} {any : Bool} {Ds : List Nat} {fo : Option (KY × EN)} {f : KY → Option EN} (hS : NxS w N aft any Ds fo w1) (h4 : Blk w4 (N + 2) (kdA (fo.getD kdZ)) KDT) (hg : w1.grownBy w4 (some (N + 2)))
    (h6 : tmps.getD 6 undef = .pointer (some ⟨N + 2, 0, none⟩)) (h7 : tmps.getD 7 undef = .bool fo.isSome) (hN : N = w.heap.size) (hL : Lst aft any (fun k e => f k = some e) fo) : bodyPostM Fence.wide 5 Try.prog fn (NxtC w aft any f) .ret { tmps := tmps, defers := marks Ds } w4 := by
  have hs := hS.sz
  have hne : ∀ D ∈ Ds, D ≠ N + 2 := fun D hD e => by
    have h2 := (hS.df D hD).2
    have h3 := hS.rb
    unfold Blk at h3
    rw [e, h3] at h2
    cases h2
  refine leave_marks (N := N) w Ds w4 hS.nd (fun D hD => ⟨(hS.df D hD).1, ?_⟩) ?_ (fun W' hb hs => ?_)
  · exact (hg.block D (Array.getElem?_eq_some_iff.1 (hS.df D hD).2).1 (fun e => hne D hD (Option.some.inj e))).trans (hS.df D hD).2
  · exact ⟨hg.os.trans hS.bel.os, hg.tape.trans hS.bel.tape, hg.output.trans hS.bel.output, Nat.le_trans hS.bel.size hg.size, fun i hi => (hg.block i (by omega) (fun e => by have := Option.some.inj e; omega)).trans (hS.bel.block i hi)⟩
  · have hr : Blk W' (N + 2) (kdA (fo.getD kdZ)) KDT := (hs (N + 2) (fun h => hne _ h rfl)).trans h4
    refine ⟨_, results_cell_tmp hres tmps W' ⟨N + 2, 0, none⟩ h6 (kdV (fo.getD kdZ)) (.bool fo.isSome) h7 (loadKD hr), ⟨fo, rfl, hL⟩, ?_⟩
    rw [← hN]
    exact hb
end TX
end Go.Proofs.Ytdigjpddmfolgaa

/- Next: the region that tells the answer. -/
namespace Go.Proofs.Ytdigjpddmfolgaa
set_option linter.unusedVariables false
set_option linter.unusedSimpArgs false
namespace TX
set_option maxRecDepth 100000
set_option maxHeartbeats 8000000
open Go.RowKit Go.Sort

theorem load_bool {w : World} {b : Nat} {v : Bool} (h : Blk w b #[.bool v] BT) : (Instr.loadAt BT (.pointer (some ⟨b, 0, none⟩))).run Try.prog w = .ok (.bool v) w := by
  have hu := Try.underlying4
  have hc : w.cell? ⟨b, 0, none⟩ = some (.bool v) := by rw [h.cell]; rfl
  simp [go_sem, hc, hu]
theorem wp_calm {P : Program} {c : Code} {K : Act → World → Prop} {Q' : Exit → Act → World → Prop} {a : Act} {w : World} (h : c.wp P (Exit.then K (fun _ _ _ => False)) a w) : c.wp P (Exit.then K Q') a w := wp_mono h (fun e a w q => by cases e <;> first | exact q | exact q.elim)
def nx18_0 (s : String) : Oper := { dst := some 69, op := Op.load 57 (Operand.tmp 8), type := 57, pos := s, after := #[], guard := none }
def nx18_1 (s : String) : Oper := { dst := some 70, op := Op.load 4 (Operand.tmp 10), type := 4, pos := s, after := #[{ on := 2, ground := Ground.gcOnly Departure.lateStores }], guard := none }
def nx18_2 (s : String) : Oper := { dst := none, op := Op.store 57 (Operand.tmp 6) (Operand.tmp 69), type := 0, pos := s, after := #[{ on := 0, ground := Ground.data }, { on := 0, ground := Ground.phase }, { on := 1, ground := Ground.textOnly Departure.lateStores }], guard := none }
def nx18_3 (s : String) : Oper := { dst := some 7, op := Op.assign (Operand.tmp 70), type := 4, pos := s, after := #[{ on := 1, ground := Ground.data }, { on := 2, ground := Ground.chain }, { on := 0, ground := Ground.phase }, { on := 1, ground := Ground.phase }, { on := 2, ground := Ground.phase }], guard := none }
def nx18_ops (s : String) : Array Oper := #[nx18_0 s, nx18_1 s, nx18_2 s, nx18_3 s]
theorem nx18_walk (s : String) {Q : Exit → Act → World → Prop} (hQ : ∀ c (a : Act) t v w, Q (.panic c) (a.put (some t) v) w → Q (.panic c) a w) (W : World) (N : Nat) (v : KY × EN) (b : Bool) (hR : Blk W.drew (N + 2) (kdA kdZ) KDT) (hv : Blk W.drew (N + 3) (kdA v) KDT) (hb : Blk W.drew (N + 4) #[.bool b] BT)
    (a : Act) (hs : 70 < a.tmps.size) (e6 : a.eval (.tmp 6) = .pointer (some ⟨N + 2, 0, none⟩)) (e8 : a.eval (.tmp 8) = .pointer (some ⟨N + 3, 0, none⟩)) (e10 : a.eval (.tmp 10) = .pointer (some ⟨N + 4, 0, none⟩))
    (h0 :  Q .normal (((a.put (some 69) (kdV v)).put (some 70) (.bool b)).put (some 7) (.bool b)) (W.drew.setCells (N + 2) 0 (kdC v))) :
    Code.wp Try.prog (.region 18 (nx18_ops s) true) Q a W := by
  refine wp_region_held_drew (S := fun w0 => Blk w0 (N + 3) (kdA v) KDT ∧ Blk w0 (N + 4) #[.bool b] BT) (by kernel_rfl) ⟨hv, hb⟩ (fun hS => ?_)
  change wpAnyH _ _ _ _ _ _ _ _ (World.drew _)
  refine wpAnyH_take (i := 0) (oi := nx18_0 s) (v := kdV v) (by kernel_rfl) (by kernel_rfl) (by kernel_rfl) (by kernel_rfl) (fun c a w h => hQ c _ _ _ w h) (Or.inl ⟨wanted_none rfl, fun w hw => run_loadO rfl e8 (run_ldKD hw.1)⟩) hS ?_
  change wpAnyH _ _ _ _ _ _ _ (a.put (some 69) (kdV v)) _
  obtain ⟨a0_1, ha1⟩ : ∃ rr : Act, rr = a.put (some 69) (kdV v) := ⟨_, rfl⟩
  have qz1 : 70 < a0_1.tmps.size := by rw [ha1, sz_put]; exact hs
  have f1_6 : a0_1.eval (.tmp 6) = .pointer (some ⟨N + 2, 0, none⟩) := by rw [ha1, ev_other _ _ _ _ (by decide)]; exact e6
  have f1_10 : a0_1.eval (.tmp 10) = .pointer (some ⟨N + 4, 0, none⟩) := by rw [ha1, ev_other _ _ _ _ (by decide)]; exact e10
  have f1_69 : a0_1.eval (.tmp 69) = kdV v := by rw [ha1]; exact ev_same _ _ _ (Nat.lt_of_le_of_lt (by decide) hs)
  rw [← ha1] at h0 ⊢
  clear ha1
  refine wpAnyH_take (i := 1) (oi := nx18_1 s) (v := .bool b) (by kernel_rfl) (by kernel_rfl) (by kernel_rfl) (by kernel_rfl) (fun c a w h => hQ c _ _ _ w h) (Or.inl ⟨wanted_none rfl, fun w hw => run_loadO rfl f1_10 (load_bool hw.2)⟩) hS ?_
  change wpAnyH _ _ _ _ _ _ _ (a0_1.put (some 70) (.bool b)) _
  obtain ⟨a0_2, ha2⟩ : ∃ rr : Act, rr = a0_1.put (some 70) (.bool b) := ⟨_, rfl⟩
  have qz2 : 70 < a0_2.tmps.size := by rw [ha2, sz_put]; exact qz1
  have f2_6 : a0_2.eval (.tmp 6) = .pointer (some ⟨N + 2, 0, none⟩) := by rw [ha2, ev_other _ _ _ _ (by decide)]; exact f1_6
  have f2_69 : a0_2.eval (.tmp 69) = kdV v := by rw [ha2, ev_other _ _ _ _ (by decide)]; exact f1_69
  have f2_70 : a0_2.eval (.tmp 70) = .bool b := by rw [ha2]; exact ev_same _ _ _ (Nat.lt_of_le_of_lt (by decide) qz1)
  rw [← ha2] at h0 ⊢
  clear ha2
  refine wpAnyH_ready (rs := [2]) (by kernel_rfl) (by simp) ?_
  refine AllReadyH.cons (o := nx18_2 s) (by kernel_rfl) (fun KQ hKQ => ?_) AllReadyH.nil
  rw [if_pos (wanted_none rfl)]
  refine step_skipE (W.drew.setCells (N + 2) 0 (kdC v)) (run_stoKD (.tmp 6) (.tmp 69) rfl (N + 2) f2_6 kdZ v f2_69 hR) ?_
  have hS2 : Blk (W.drew.setCells (N + 2) 0 (kdC v)) (N + 3) (kdA v) KDT ∧ Blk (W.drew.setCells (N + 2) 0 (kdC v)) (N + 4) #[.bool b] BT := ⟨hv.grown (KD.put hR v).2 (fun e => by have := Option.some.inj e; omega), hb.grown (KD.put hR v).2 (fun e => by have := Option.some.inj e; omega)⟩
  refine hKQ.out _ _ (hS2) (fun _ => ?_)
  clear hKQ KQ
  change wpAnyH _ _ _ _ _ _ _ a0_2 _
  refine wpAnyH_take (i := 3) (oi := nx18_3 s) (v := .bool b) (by kernel_rfl) (by kernel_rfl) (by kernel_rfl) (by kernel_rfl) (fun c a w h => hQ c _ _ _ w h) (Or.inl ⟨wanted_none rfl, fun w hw => by simp only [execOp, nx18_3, f2_70]; rfl⟩) hS2 ?_
  change wpAnyH _ _ _ _ _ _ _ (a0_2.put (some 7) (.bool b)) _
  obtain ⟨a0_4, ha4⟩ : ∃ rr : Act, rr = a0_2.put (some 7) (.bool b) := ⟨_, rfl⟩
  have qz4 : 70 < a0_4.tmps.size := by rw [ha4, sz_put]; exact qz2
  rw [← ha4] at h0 ⊢
  clear ha4
  refine wpAnyH_done (by kernel_rfl) ?_ _
  exact h0
end TX
end Go.Proofs.Ytdigjpddmfolgaa
