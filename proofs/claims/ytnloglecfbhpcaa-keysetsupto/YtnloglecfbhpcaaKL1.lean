/- KeySets: rows with marks behind them. -/
import Derived.Test.YtnloglecfbhpcaaKL0
namespace Go.Proofs.Ytnloglecfbhpcaa
set_option linter.unusedVariables false
set_option linter.unusedSimpArgs false
open Go.RowKit Go.Sort Go.Shelf
set_option maxRecDepth 100000
set_option maxHeartbeats 8000000

theorem setCells_row {b : Nat} {t : TypeId} : ∀ (vs : List Value) (o : Nat) (w : World) (cs : Array Value), Blk w b cs t → o + vs.length ≤ cs.size → Blk (w.setCells b o vs) b (cs.toList.take o ++ vs ++ cs.toList.drop (o + vs.length)).toArray t ∧ w.grownBy (w.setCells b o vs) (some b)
  | [], o, w, cs, h, _ => ⟨by rw [List.append_nil, List.length_nil, Nat.add_zero, List.take_append_drop]; exact h, ⟨rfl, rfl, rfl, Nat.le_refl _, fun _ _ _ => rfl⟩⟩
  | v :: r, o, w, cs, h, hl => by
    rw [List.length_cons] at hl
    obtain ⟨h1, h2⟩ := setCells_row r (o + 1) (w.setCell ⟨b, o, none⟩ v) (cs.setIfInBounds o v) (h.set o v) (by rw [Array.size_setIfInBounds]; omega)
    refine ⟨?_, grownBy_trans (grownBy_set w b o v) h2⟩
    have e : (cs.setIfInBounds o v).toList.take (o + 1) ++ r ++ (cs.setIfInBounds o v).toList.drop (o + 1 + r.length) = cs.toList.take o ++ v :: r ++ cs.toList.drop (o + (v :: r).length) := by
      rw [Array.toList_setIfInBounds, List.drop_set_of_lt (by omega), List.take_set, List.length_cons, show o + (r.length + 1) = o + 1 + r.length by omega]
      congr 1
      rw [List.take_succ_eq_append_getElem (by rw [Array.length_toList]; omega), List.set_append_right _ _ (by rw [List.length_take]; omega), List.length_take, Nat.min_eq_left (by rw [Array.length_toList]; omega), Nat.sub_self, List.set_cons_zero, List.append_assoc]
      rfl
    rw [e] at h1
    exact h1
theorem there_row {w : World} {b : Nat} {old : Array Value} {t : TypeId} (hk : Blk w b old t) (o n : Nat) (hs : o + n ≤ old.size) : w.there b o n := fun j hj => by
  refine ⟨?_, Blk.frozen hk (o + j)⟩
  rw [hk.cell]
  exact Option.isSome_iff_exists.2 ⟨old[o + j]'(by omega), Array.getElem?_eq_getElem (by omega)⟩
theorem take_mid {α : Type} (l vs : List α) (o m : Nat) (h1 : o + vs.length ≤ m) (h2 : m ≤ l.length) : (l.take o ++ vs ++ l.drop (o + vs.length)).take m = (l.take m).take o ++ vs ++ (l.take m).drop (o + vs.length) := by
  rw [List.take_take, Nat.min_eq_left (by omega), List.take_append, List.take_of_length_le (by rw [List.length_append, List.length_take]; omega), List.drop_take]
  congr 2
  rw [List.length_append, List.length_take]
  omega
/-- An element of one's own row is written over. -/
theorem rowSetQ {W : World} {B g n cap s : Nat} {t : TypeId} {xs : List Value} (h : W.ownsRow B t s (.slice (some ⟨g, 0, none⟩) n cap) n xs) {i : Nat} (hi : i < n) (vs : List Value) (hv : vs.length = s) :
    W.there g (i * s) s ∧ (W.setCells g (i * s) vs).ownsRow B t s (.slice (some ⟨g, 0, none⟩) n cap) n (xs.take (i * s) ++ vs ++ xs.drop (i * s + s)) ∧ W.grownBy (W.setCells g (i * s) vs) (some g) := by
  obtain ⟨h0, ⟨h1, _⟩ | ⟨g', cap', cur, e, hb, hh, hc, hm, hs, ht⟩⟩ := h
  · cases h1
  · cases e
    have q1 : (i + 1) * s ≤ n * s := Nat.mul_le_mul_right s hi
    have q2 : n * s ≤ cap * s := Nat.mul_le_mul_right s hc
    have q3 : (i + 1) * s = i * s + s := Nat.succ_mul i s
    have hB : Blk W g cur t := hh
    obtain ⟨r1, r2⟩ := setCells_row vs (i * s) W cur hB (by omega)
    refine ⟨there_row hB _ _ (by omega), ⟨?_, .inr ⟨g, cap, _, rfl, hb, r1, hc, hm, ?_, ?_⟩⟩, r2⟩
    · simp only [List.length_append, List.length_take, List.length_drop]
      omega
    · simp only [List.size_toArray, List.length_append, List.length_take, List.length_drop, Array.length_toList]
      omega
    · rw [List.toList_toArray, take_mid _ _ _ _ (by omega) (by rw [Array.length_toList]; omega), ht, hv]
theorem flat_set {α β : Type} {f : α → List β} {s : Nat} : ∀ (l : List α) (i : Nat) (a : α), (∀ x ∈ l, (f x).length = s) → i < l.length → (l.set i a).flatMap f = (l.flatMap f).take (i * s) ++ f a ++ (l.flatMap f).drop (i * s + s)
  | x :: l, 0, a, h, _ => by
    have hx := h x (by simp)
    simp only [List.set_cons_zero, List.flatMap_cons, Nat.zero_mul, List.take_zero, List.nil_append, Nat.zero_add]
    rw [List.drop_append, List.drop_of_length_le (by omega), hx, Nat.sub_self]
    rfl
  | x :: l, i + 1, a, h, hi => by
    have hx := h x (by simp)
    have ih := flat_set l i a (fun y hy => h y (by simp [hy])) (by simpa using hi)
    have q : (i + 1) * s = s + i * s := by rw [Nat.succ_mul]; omega
    simp only [List.set_cons_succ, List.flatMap_cons]
    rw [ih, q, List.take_append, List.take_of_length_le (l := f x) (by omega), List.drop_append, List.drop_of_length_le (l := f x) (by omega), hx, show s + i * s - s = i * s by omega, show s + i * s + s - s = i * s + s by omega]
    simp only [List.append_assoc, List.nil_append]
/-- A key of one's own row is written over. -/
theorem wpList_storeQ {ops : Array Oper} {rest : List Oper} {op : Oper} {a : Act} {w : World} {Q : Exit → Act → World → Prop} (hgd : op.guard = none) (x y : Operand) (ho : op.op = .store 38 x y) (B g n cap : Nat) (ks : List (List UInt8)) (h32 : ∀ k ∈ ks, k.length = 32) (hown : OwnQ w B (.slice (some ⟨g, 0, none⟩) n cap) ks) (i : Nat) (hi : i < ks.length) (hx : a.eval x = .pointer (some ⟨g, i * 32, none⟩)) (k : List UInt8) (hk : k.length = 32) (hy : a.eval y = keyV k)
    (h : ∀ w', Hid (OwnQ w' B (.slice (some ⟨g, 0, none⟩) n cap) (ks.set i k)) → Hid (w.grownBy w' (some g)) → wpList Try.prog ops Q rest (a.put op.dst undef) w') : wpList Try.prog ops Q (op :: rest) a w := by
  have hn : n = ks.length := by
    obtain ⟨_, ⟨e, _⟩ | ⟨g', cap', cur, e, _⟩⟩ := id hown
    · cases e
    · cases e; rfl
  subst hn
  obtain ⟨q1, q2, q3⟩ := rowSetQ hown hi (k.map u8c) (by simp [hk])
  refine wpList_store_mid hgd 38 x y ho g (i * 32) (k.map u8c).toArray hx hy (by simpa [hk] using q1) (by simpa [hk] using infoKey) (all_oneCell_toArray (u8c_one k)) (h _ (hide ?_) (hide q3))
  unfold OwnQ
  rw [List.length_set, show rowQ (ks.set i k) = (rowQ ks).take (i * 32) ++ k.map u8c ++ (rowQ ks).drop (i * 32 + 32) from flat_set ks i k (fun y hy => by simp [h32 y hy]) hi]
  exact q2

def mk (c i : Nat) : List UInt8 := UInt8.ofNat c :: UInt8.ofNat i :: List.replicate 30 0
theorem mk_len (c i : Nat) : (mk c i).length = 32 := by simp [mk]
theorem mk_mod (c i : Nat) : mk c (i % 256) = mk c i := by
  unfold mk
  have : UInt8.ofNat (i % 256) = UInt8.ofNat i := by
    apply UInt8.toNat_inj.1
    simp
  rw [this]
def mCk (c i : Int) : Value := .agg ((Value.int .u8 c :: Value.int .u8 i :: List.replicate 30 (Value.int .u8 0) : List Value)).toArray
theorem mk_is (c i : Nat) (hc : c < 256) : keyV (mk c i) = mCk c ((i % 256 : Nat) : Int) := by
  unfold keyV mk mCk u8c
  simp only [List.map_cons, List.map_replicate, UInt8.toNat_ofNat', Nat.mod_eq_of_lt hc]
  rfl
theorem run_mk {op : Oper} {ev : Operand → Value} {x : Operand} {q : Int} (c : Int) (ho : op.op = .build 38 #[(0, .const (.int .u8 c)), (1, x)]) (hx : ev x = .int .u8 q) (hc : ev (.const (.int .u8 c)) = .int .u8 c) (w : World) : (execOp ev op).run Try.prog w = .ok (.value (mCk c q)) w := by
  simp only [execOp, ho]
  simp only [List.map_toArray, List.map_cons, List.map_nil, hx, hc]
  kernel_rfl
theorem run_cvt {op : Oper} {ev : Operand → Value} {x : Operand} {n : Nat} (ho : op.op = .convert 3 5 x) (hx : ev x = .int .i64 (n : Int)) (w : World) : (execOp ev op).run Try.prog w = .ok (.value (.int .u8 ((n % 256 : Nat) : Int))) w := by
  have hw : IntKind.u8.wrap (n : Int) = ((n % 256 : Nat) : Int) := by unfold IntKind.wrap; simp [IntKind.signed, IntKind.bits]
  have hu := Try.underlying3
  have hu2 := Try.underlying5
  simp only [execOp, ho, hx]
  simp [go_sem, hu, hu2, hw]
theorem wpList_cvt {ops : Array Oper} {rest : List Oper} {op : Oper} {a : Act} {w : World} {Q : Exit → Act → World → Prop} (x : Operand) (n : Nat) (ho : op.op = .convert 3 5 x) (hx : a.eval x = .int .i64 (n : Int)) (hg : Region.wanted op (yielded ops a.tmps) = true)
    (h : wpList Try.prog ops Q rest (a.put op.dst (.int .u8 ((n % 256 : Nat) : Int))) w) : wpList Try.prog ops Q (op :: rest) a w := wpList_val _ hg (run_cvt ho hx w) h
theorem wpList_mk {ops : Array Oper} {rest : List Oper} {op : Oper} {a : Act} {w : World} {Q : Exit → Act → World → Prop} (c : Nat) (hc : c < 256) (x : Operand) (i : Nat) (ho : op.op = .build 38 #[(0, .const (.int .u8 (c : Int))), (1, x)]) (hx : a.eval x = .int .u8 ((i % 256 : Nat) : Int)) (hg : Region.wanted op (yielded ops a.tmps) = true)
    (h : wpList Try.prog ops Q rest (a.put op.dst (keyV (mk c i))) w) : wpList Try.prog ops Q (op :: rest) a w := wpList_val _ hg (by rw [mk_is c i hc]; exact run_mk _ ho hx rfl w) h
/-- The keys, and nine marks behind them. -/
def markL (ks : List (List UInt8)) : List (List UInt8) := ks ++ (List.range 9).map fun j => mk 200 (ks.length + j)
theorem markL_len (ks : List (List UInt8)) : (markL ks).length = ks.length + 9 := by simp [markL]
theorem markL_lo {ks : List (List UInt8)} {i : Nat} (h : i < ks.length) : (markL ks)[i]? = some ks[i] := by
  unfold markL
  rw [List.getElem?_append_left h, List.getElem?_eq_getElem h]
theorem markL_hi {ks : List (List UInt8)} {i : Nat} (h : ks.length ≤ i) (h2 : i < ks.length + 9) : (markL ks)[i]? = some (mk 200 i) := by
  unfold markL
  rw [List.getElem?_append_right h, List.getElem?_map, List.getElem?_range (by omega)]
  simp only [Option.map_some]
  rw [show ks.length + (i - ks.length) = i by omega]
theorem markL_32 {ks : List (List UInt8)} (h : ∀ k ∈ ks, k.length = 32) : ∀ k ∈ markL ks, k.length = 32 := fun k hk => by
  unfold markL at hk
  rcases List.mem_append.1 hk with hk | hk
  · exact h k hk
  · obtain ⟨j, _, rfl⟩ := List.mem_map.1 hk
    exact mk_len _ _
theorem take_set_snoc {C : List (List UInt8)} {i : Nat} {k : List UInt8} (h : i < C.length) : (C.set i k).take (i + 1) = C.take i ++ [k] := by
  rw [List.take_succ_eq_append_getElem (by rw [List.length_set]; exact h), List.take_set_of_le (by omega), List.getElem_set_self]
theorem mem_set32 {C : List (List UInt8)} {i : Nat} {k : List UInt8} (h : ∀ x ∈ C, x.length = 32) (hk : k.length = 32) : ∀ x ∈ C.set i k, x.length = 32 := fun x hx => by
  rcases List.mem_or_eq_of_mem_set hx with h1 | h1
  · exact h x h1
  · rw [h1]; exact hk
theorem made_keys (w : World) (m : Nat) (hm : m ≤ 4398046511104) : (Instr.makeSlice 39 (.int .i64 (m : Int)) (.int .i64 (m : Int))).run Try.prog w = .ok (.slice (some ⟨w.heap.size, 0, none⟩) m m) (w.alloc (.cells (madeCells keyZ (m * 32)) 38)) := by
  obtain ⟨i, hi, hz, hs, hb⟩ := infoKeyQ
  have h1 : ((i.bytes * m : Nat) : Int) ≤ 281474976710656 := by rw [hb]; omega
  rw [Int.natCast_mul] at h1
  have := run_make (P := Try.prog) w 39 38 i (.agg keyZ) Try.underlying39 hi hz .i64 .i64 (m : Int) (m : Int) (by omega) (Int.le_refl _) h1 (by omega)
  rw [hs] at this
  simpa [Value.cells] using this
theorem flat_len {α : Type} {f : α → List Value} {s : Nat} : ∀ (l : List α), (∀ x ∈ l, (f x).length = s) → (l.flatMap f).length = l.length * s
  | [], _ => by simp
  | x :: l, h => by
    rw [List.flatMap_cons, List.length_append, h x (List.mem_cons_self ..), flat_len l (fun y hy => h y (List.mem_cons_of_mem _ hy)), List.length_cons, Nat.succ_mul]
    omega
theorem madeCells_zero (z : Array Value) (n : Nat) (hz : 0 < z.size) : (madeCells z (n * z.size)).toList = (List.replicate n ()).flatMap (fun _ => z.toList) := by
  have hl : ((List.replicate n ()).flatMap (fun _ => z.toList)).length = n * z.size := by
    rw [flat_len (s := z.size) _ (fun _ _ => by simp), List.length_replicate]
  apply List.ext_getElem?
  intro j
  by_cases hj : j < n * z.size
  · have hm : j % z.size < z.size := Nat.mod_lt _ hz
    have hd : j / z.size < n := Nat.div_lt_of_lt_mul (by rw [Nat.mul_comm]; exact hj)
    have := flat_atP (f := fun _ : Unit => z.toList) (s := z.size) (x := ()) (List.replicate n ()) (j / z.size) (fun _ _ => by simp) (by simp [hd]) (j % z.size) (z[j % z.size]'hm) (by simp [hm])
    rw [Nat.div_add_mod'] at this
    rw [this]
    simp [madeCells, hj, hm]
  · rw [List.getElem?_eq_none (by simp [size_madeCells]; omega), List.getElem?_eq_none (by omega)]
theorem row_zeros (m : Nat) : (madeCells keyZ (m * 32)).toList = rowQ (List.replicate m zK) := by
  have h := madeCells_zero keyZ m (by decide)
  rw [show keyZ.size = 32 from rfl] at h
  rw [h]
  induction m with
  | zero => rfl
  | succ m ih =>
    have ih2 := ih (by have := madeCells_zero keyZ m (by decide); rwa [show keyZ.size = 32 from rfl] at this)
    rw [List.replicate_succ, List.replicate_succ, List.flatMap_cons]
    unfold rowQ at ih2 ⊢
    rw [List.flatMap_cons, ih2]
    rfl
theorem own_made (w : World) (m : Nat) (hm : m ≤ 4398046511104) : OwnQ (w.alloc (.cells (madeCells keyZ (m * 32)) 38)) w.heap.size (.slice (some ⟨w.heap.size, 0, none⟩) m m) (List.replicate m zK) := by
  unfold OwnQ
  rw [List.length_replicate]
  refine ⟨by simp [rowQ, zK], .inr ⟨w.heap.size, m, madeCells keyZ (m * 32), rfl, Nat.le_refl _, Blk.made w _ _, Nat.le_refl _, by unfold maxLen; omega, by rw [size_madeCells], ?_⟩⟩
  rw [List.take_of_length_le (by rw [Array.length_toList, size_madeCells]; exact Nat.le_refl _), row_zeros]
theorem three_any (n : Int) (w : World) : Calls Try.prog 17 #[.int .i64 n] w fun e w' => (∃ j : Nat, j < 3 ∧ e = .returned (.int .i64 (j : Int))) ∧ w' = w := by
  obtain ⟨a, ha⟩ : ∃ a, n.tmod 3 = a := ⟨_, rfl⟩
  have h1 : -3 < a := by rw [← ha]; exact Int.lt_tmod_of_pos n (by decide)
  have h2 : a < 3 := by rw [← ha]; exact Int.tmod_lt_of_pos n (by decide)
  have h3 : a = -2 ∨ a = -1 ∨ a = 0 ∨ a = 1 ∨ a = 2 := by omega
  rcases h3 with rfl | rfl | rfl | rfl | rfl
  all_goals
    clear h1 h2
    go_enter Try.func17, Try.ntmps17
    go_wp2
    go_ret
  · exact ⟨⟨1, by decide, rfl⟩, rfl⟩
  · exact ⟨⟨2, by decide, rfl⟩, rfl⟩
  · exact ⟨⟨0, by decide, rfl⟩, rfl⟩
  · exact ⟨⟨1, by decide, rfl⟩, rfl⟩
  · exact ⟨⟨2, by decide, rfl⟩, rfl⟩
/-- While the row is laid. -/
structure KyS (w : World) (B g m : Nat) (L : List (List UInt8)) (i : Nat) (W : World) : Prop where
  ex : ∃ C, C.length = m ∧ C.take i = L.take i ∧ (∀ x ∈ C, x.length = 32) ∧ OwnQ W B (.slice (some ⟨g, 0, none⟩) m m) C
  bel : Below B w W
theorem KyS.below {w W W' : World} {B g m i : Nat} {L : List (List UInt8)} (h : KyS w B g m L i W) (hb : Below W.heap.size W W') (hB : B ≤ W.heap.size) : KyS w B g m L i W' := by
  obtain ⟨C, h1, h2, h3, h4⟩ := h.ex
  exact ⟨⟨C, h1, h2, h3, h4.below hb⟩, h.bel.trans (hb.mono hB)⟩
theorem keys_any (w : World) (ao : Option Addr) (n c : Nat) (ks : List (List UInt8)) (hn : n = ks.length) (hr : KRow w ao ks) (hl : n ≤ 4398046511000) : Calls Try.prog 25 #[.slice ao n c] w fun e w' => ∃ g, e = .returned (.slice (some ⟨g, 0, none⟩) n (n + 9)) ∧ w.heap.size ≤ g ∧ OwnQ w' w.heap.size (.slice (some ⟨g, 0, none⟩) (n + 9) (n + 9)) (markL ks) ∧ Below w.heap.size w w' := by
  obtain ⟨m, hm⟩ : ∃ m, m = n + 9 := ⟨_, rfl⟩
  have hmi : (n : Int) + 9 = (m : Int) := by omega
  have hmw : IntKind.i64.wrap ((n : Int) + 9) = (m : Int) := by rw [hmi]; simp [IntKind.wrap, IntKind.bits, IntKind.signed]; omega
  have hmk := made_keys w m (by omega)
  obtain ⟨B, hB⟩ : ∃ B, B = w.heap.size := ⟨_, rfl⟩
  have HN := hide hn
  have HM := hide hm
  have HBe := hide hB
  have HS0 : Hid (KyS w B B m (markL ks) 0 (w.alloc (.cells (madeCells keyZ (m * 32)) 38))) := hide (by
    rw [hB]
    exact ⟨⟨List.replicate m zK, by simp, by simp, fun x hx => by rw [List.eq_of_mem_replicate hx]; rfl, own_made w m (by omega)⟩, below_alloc w _⟩)
  have HR : Hid (∀ W, Below B w W → KRow W ao ks) := hide (fun W hb => hr.below (by rw [← hB]; exact hb))
  have H32 := hide hr.len
  have hm2 : m ≤ 4398046511104 := by omega
  clear hr hn hm
  go_enter Try.func25, Try.ntmps25
  go_upto_region 3 with fail
  rw [← hB] at hmk ⊢
  clear hmk hB
  refine name_worldK (fun W => KyS w B B m (markL ks) 0 W) HS0.out ?_
  rintro W1 hW1
  have HS1 := hide hW1
  clear hW1 HS0
  go_loopw [4] (fun t wr => ∃ i : Nat, t = .int .i64 i ∧ i ≤ m ∧ KyS w B B m (markL ks) i wr) (fun t _ => m - (intOf t).toNat)
  case atStart => exact ⟨0, rfl, by omega, HS1.out⟩
  case round =>
    clear HS1
    obtain ⟨i, rfl, hi, hS⟩ := hrel
    obtain ⟨C, h1, h2, h3, h4⟩ := hS.ex
    have HC1 := hide h1
    have HC2 := hide h2
    have HC3 := hide h3
    have HO := hide h4
    have HBel := hide hS.bel
    clear hS h1 h2 h3 h4
    by_cases hlt : i < m
    · have hii : (i : Int) < (m : Int) := by omega
      have hil : i < C.length := by rw [HC1.out]; exact hlt
      have HIL := hide hil
      have HBs : Hid (B ≤ wr.heap.size) := hide (by rw [HBe.out]; exact HBel.out.size)
      clear hil
      go_upto_region 6 with (first | ((with_reducible refine wpList_cvt (.tmp 17) i ?_ ?_ ?_ ?_); rfl; rfl; rfl) | ((with_reducible refine wpList_mk 200 (by decide) (.tmp 18) i ?_ ?_ ?_ ?_); rfl; rfl; rfl) | ((with_reducible refine wpList_storeQ ?_ (.tmp 20) (.tmp 19) ?_ B B m m C HC3.out HO.out i HIL.out ?_ (mk 200 i) (mk_len _ _) ?_ ?_); rfl; rfl; rfl; rfl; intro w1 HO1 HG1))
      have HBel1 : Hid (Below B w w1) := hide (HBel.out.grown HG1.out HBs.out (fun j hj => by cases hj; exact Nat.le_refl _))
      have HT1 := hide (take_set_snoc (k := mk 200 i) HIL.out)
      by_cases hin : i < n
      · have hini : (i : Int) < (n : Int) := by omega
        have hik : i < ks.length := by rw [← HN.out]; exact hin
        obtain ⟨y, hy⟩ : ∃ y, y = ks[i] := ⟨_, rfl⟩
        obtain ⟨g, o, rfl, hrd⟩ := (HR.out w1 HBel1.out).at' i hik
        have hyl : y.length = 32 := by rw [hy]; exact H32.out _ (List.getElem_mem _)
        rw [← hy] at hrd
        have HRY := hide hrd
        have HY := hide hyl
        have HL : Hid ((markL ks)[i]? = some y) := hide (by rw [hy]; exact markL_lo hik)
        have HC3' := hide (mem_set32 HC3.out (mk_len 200 i) (i := i))
        have HIL2 : Hid (i < (C.set i (mk 200 i)).length) := hide (by rw [List.length_set]; exact HIL.out)
        clear hrd hyl hy hik
        go_upto_region 4 with (first | ((with_reducible refine wpList_load_keyAt (.tmp 29) g (o + i * 32) y HY.out HRY.out ?_ ?_ ?_ ?_); rfl; rfl; rfl) | ((with_reducible refine wpList_storeQ ?_ (.tmp 31) (.tmp 30) ?_ B B m m (C.set i (mk 200 i)) HC3'.out HO1.out i HIL2.out ?_ y HY.out ?_ ?_); rfl; rfl; rfl; rfl; intro w2 HO2 HG2))
        have HBel2 : Hid (Below B w w2) := hide (HBel1.out.grown HG2.out (by rw [HBe.out]; exact HBel1.out.size) (fun j hj => by cases hj; exact Nat.le_refl _))
        have HE : Hid (KyS w B B m (markL ks) (i + 1) w2) := hide ⟨⟨_, by rw [List.length_set, List.length_set]; exact HC1.out, by
          rw [take_set_snoc HIL2.out, List.take_set_of_le (Nat.le_refl _), HC2.out, List.take_add_one, HL.out]
          rfl, mem_set32 HC3'.out HY.out, HO2.out⟩, HBel2.out⟩
        clear HO2 HG2 HO1 HG1 HBel1 HBel2 HRY HO HBel
        go_wp2
        go_roundw
        case rel => exact ⟨i + 1, by go_num, by omega, HE.out⟩
        case measure => simp [intOf]; omega
      · have hini : ¬ (i : Int) < (n : Int) := by omega
        have HL : Hid ((markL ks)[i]? = some (mk 200 i)) := hide (markL_hi (by rw [← HN.out]; omega) (by rw [← HN.out]; omega))
        have HE : Hid (KyS w B B m (markL ks) (i + 1) w1) := hide ⟨⟨_, by rw [List.length_set]; exact HC1.out, by
          rw [HT1.out, HC2.out, List.take_add_one, HL.out]
          rfl, mem_set32 HC3.out (mk_len 200 i), HO1.out⟩, HBel1.out⟩
        clear HO1 HG1 HBel1 HO HBel
        go_wp2
        go_roundw
        case rel => exact ⟨i + 1, by go_num, by omega, HE.out⟩
        case measure => simp [intOf]; omega
    · have hii : ¬ (i : Int) < (m : Int) := by omega
      have HE : Hid (C = markL ks) := hide (by
        have h1 := HC2.out
        rw [List.take_of_length_le (by rw [HC1.out]; omega), List.take_of_length_le (by rw [markL_len, ← HN.out]; omega)] at h1
        exact h1)
      rw [HE.out] at HO
      have hnm : (n : Int) ≤ (m : Int) := by omega
      go_wp2
      go_ret
      exact ⟨B, by rw [HM.out]; rfl, by rw [HBe.out]; exact Nat.le_refl _, by rw [← HM.out, ← HBe.out]; exact HO.out, by rw [← HBe.out]; exact HBel.out⟩
end Go.Proofs.Ytnloglecfbhpcaa
