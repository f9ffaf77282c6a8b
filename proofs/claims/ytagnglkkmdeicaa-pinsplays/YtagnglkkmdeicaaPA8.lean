/- The document's Count; rows of sessions. -/
import Derived.Test.YtagnglkkmdeicaaPA7
namespace Go.Proofs.Ytagnglkkmdeicaa
set_option linter.unusedVariables false
set_option linter.unusedSimpArgs false
open Go.RowKit
set_option maxRecDepth 100000

theorem rhas_any (w : World) (zr : Nat) (D : List RfV) (s : Int) (x : List UInt8) (hx : x.length = 32) (h : RfAt w zr D) (hl : ∀ (k : Nat) (d : RfV), D[k]? = some d → d.L.length ≤ 4398046510976) : Calls Try.prog 38 #[.pointer (some ⟨zr, 0, none⟩), .int .i64 s, keyV x] w fun e w' => e = .returned (.bool (decide (x ∈ keysD D s))) ∧ Below w.heap.size w w' := by
  cases ho : opD D s with
  | false => rw [keysD_no ho]; exact (rhas_no w zr D s x h ho).mono fun e w' q => ⟨by rw [q.1]; simp, q.2⟩
  | true =>
    obtain ⟨k, d, rfl, hk, hd, hop⟩ := opD_yes h ho
    rw [keysD_yes hk hd hop]
    exact rhas_yes w zr D k d x hk hx h hd hop (by have := hl k d hd; omega)
/-- How many of the first n sessions of the document pin a key. -/
def cntD (D : List RfV) (x : List UInt8) : Nat → Nat
  | 0 => 0
  | n + 1 => cntD D x n + (if decide (x ∈ keysD D n) = true then 1 else 0)
set_option maxHeartbeats 1000000 in
theorem rcount_any (w : World) (zr : Nat) (D : List RfV) (x : List UInt8) (hx : x.length = 32) (h : RfAt w zr D) (hl : ∀ (k : Nat) (d : RfV), D[k]? = some d → d.L.length ≤ 4398046510976) : Calls Try.prog 41 #[.pointer (some ⟨zr, 0, none⟩), keyV x] w fun e w' => e = .returned (.int .i64 (cntD D x 16 : Nat)) ∧ Below w.heap.size w w' := by
  obtain ⟨W, hW⟩ : ∃ W, W = w.alloc (.cells (x.map u8c).toArray 30) := ⟨_, rfl⟩
  have hb : Below w.heap.size w W := by rw [hW]; exact (Below.refl _ _).alloc (Nat.le_refl _) _
  have HP : Hid (Rw w zr D w.heap.size x W) := hide ⟨h.below hb, by rw [hW]; exact ⟨Blk.made w _ _, hx⟩, hb⟩
  have HX := hide hx
  have HL := hide hl
  clear h hx hb hl
  show Calls Try.prog 41 #[.pointer (some ⟨zr, 0, none⟩), .agg (x.map u8c).toArray] w _
  go_enter Try.func41, Try.ntmps41
  go_upto_region 1 with fail
  rw [← hW]
  clear hW
  go_wp2
  go_loopw [5, 6] (fun t i wr => ∃ (k m : Nat), i = .int .i64 k ∧ k ≤ 16 ∧ t = .int .i64 m ∧ m ≤ k ∧ m = cntD D x k ∧ Rw w zr D w.heap.size x wr) (fun _ i _ => 16 - (intOf i).toNat)
  case atStart => exact ⟨0, 0, rfl, by omega, rfl, by omega, rfl, HP.out⟩
  case round =>
    clear HP
    obtain ⟨k, m, rfl, hk, rfl, hmk, hm, hP⟩ := hrel
    by_cases hlt : k < 16
    · have hki : (k : Int) < 16 := by omega
      have HM : Hid (cntD D x (k + 1) = m + (if decide (x ∈ keysD D k) = true then 1 else 0)) := hide (by rw [cntD, ← hm])
      have HC := hide (rhas_any wr zr D k x HX.out hP.rf HL.out)
      have HP := hide hP
      clear hP hm
      cases hr : decide (x ∈ keysD D k) with
      | true =>
        rw [hr] at HC HM
        clear hr
        go_wp2_with (first | ((with_reducible refine wpList_key (.tmp 3) w.heap.size x HP.out.key ?_ ?_ ?_ ?_); rfl; rfl; rfl) | (go_at_call 38; (with_reducible refine HC.out.mono ?_); rintro e w1 ⟨rfl, hb1⟩))
        exact ⟨⟨k + 1, m + 1, by go_num, by omega, by go_num, by omega, HM.out.symm, HP.out.below hb1⟩, by simp [intOf]; omega⟩
      | false =>
        rw [hr] at HC HM
        clear hr
        go_wp2_with (first | ((with_reducible refine wpList_key (.tmp 3) w.heap.size x HP.out.key ?_ ?_ ?_ ?_); rfl; rfl; rfl) | (go_at_call 38; (with_reducible refine HC.out.mono ?_); rintro e w1 ⟨rfl, hb1⟩))
        exact ⟨⟨k + 1, m, by go_num, by omega, by go_num, by omega, HM.out.symm, HP.out.below hb1⟩, by simp [intOf]; omega⟩
    · have hki : ¬ (k : Int) < 16 := by omega
      have HM : Hid (m = cntD D x 16) := hide (by rw [hm, show k = 16 by omega])
      have HBE := hide hP.bel
      clear hm hP
      go_wp2
      go_ret
      exact ⟨by rw [HM.out]; rfl, HBE.out⟩
/-- What is told of a session: its number, how busy, its row of keys. -/
structure SeV where
  num : Nat
  busy : Nat
  ka : Option Addr
  kc : Nat
  xs : List (List UInt8)
def seV (e : SeV) : List Value := [.int .i64 (e.num : Int), .int .i64 (e.busy : Int), .slice e.ka e.xs.length e.kc]
def rowS (E : List SeV) : List Value := E.flatMap seV
theorem rowS_snoc (E : List SeV) (e : SeV) : rowS (E ++ [e]) = rowS E ++ seV e := by simp [rowS]
theorem seV_one (e : SeV) : ∀ v ∈ seV e, v.oneCell' = true := by
  intro v hv
  simp only [seV, List.mem_cons, List.not_mem_nil, or_false] at hv
  rcases hv with rfl | rfl | rfl <;> rfl
theorem rowS_get : ∀ (E : List SeV) (i c : Nat) (hi : i < E.length) (hc : c < 3), (rowS E)[i * 3 + c]? = (seV E[i])[c]?
  | e :: r, 0, c, _, hc => by
    rw [show rowS (e :: r) = seV e ++ rowS r from rfl, List.getElem?_append_left (by show 0 * 3 + c < 3; omega), Nat.zero_mul, Nat.zero_add]; rfl
  | e :: r, i + 1, c, hi, hc => by
    rw [show rowS (e :: r) = seV e ++ rowS r from rfl, List.getElem?_append_right (by show 3 ≤ (i + 1) * 3 + c; omega), show (i + 1) * 3 + c - (seV e).length = i * 3 + c by show (i + 1) * 3 + c - 3 = _; omega]
    exact rowS_get r i c (by simpa using hi) hc
theorem infoSes : ∃ i, Try.prog.info? 80 = some i ∧ i.zero = some (.agg #[.int .i64 0, .int .i64 0, .slice none 0 0]) ∧ i.size = 3 ∧ i.bytes = 40 := by
  have h : (Try.prog.info? 80).map (fun i => (i.zero, i.size, i.bytes)) = some (some (.agg #[.int .i64 0, .int .i64 0, .slice none 0 0]), 3, 40) := by kernel_rfl
  cases hi : Try.prog.info? 80 with
  | none => rw [hi] at h; cases h
  | some i =>
    rw [hi] at h
    simp at h
    exact ⟨i, rfl, h.1, h.2.1, h.2.2⟩
theorem run_bsS {op : Oper} {ev : Operand → Value} {x : Operand} {w : World} (e : SeV) (ho : op.op = .buildSlice 61 1 #[(0, x)]) (hx : ev x = .agg (seV e).toArray) : (execOp ev op).run Try.prog w = .ok (.value (.slice (some ⟨w.heap.size, 0, none⟩) 1 1)) (w.alloc (.cells (seV e).toArray 80)) := by
  simp only [execOp, ho]
  simp only [List.map_toArray, List.map_cons, List.map_nil, hx]
  kernel_rfl
theorem wpList_bsS {ops : Array Oper} {rest : List Oper} {op : Oper} {a : Act} {w : World} {Q : Exit → Act → World → Prop} (x : Operand) (e : SeV) (hg : Region.wanted op (yielded ops a.tmps) = true) (ho : op.op = .buildSlice 61 1 #[(0, x)]) (hx : a.eval x = .agg (seV e).toArray)
    (h : wpList Try.prog ops Q rest (a.put op.dst (.slice (some ⟨w.heap.size, 0, none⟩) 1 1)) (w.alloc (.cells (seV e).toArray 80))) : wpList Try.prog ops Q (op :: rest) a w :=
  wpList_runQ _ _ hg (run_bsS e ho hx) h
theorem run_buildSe {op : Oper} {ev : Operand → Value} {x y z : Operand} {w : World} (e : SeV) (ho : op.op = .build 80 #[(0, x), (1, y), (2, z)]) (hx : ev x = .int .i64 (e.num : Int)) (hy : ev y = .int .i64 (e.busy : Int)) (hz : ev z = .slice e.ka e.xs.length e.kc) : (execOp ev op).run Try.prog w = .ok (.value (.agg (seV e).toArray)) w := by
  simp only [execOp, ho]
  simp only [List.map_toArray, List.map_cons, List.map_nil, hx, hy, hz]
  kernel_rfl
theorem wpList_buildSe {ops : Array Oper} {rest : List Oper} {op : Oper} {a : Act} {w : World} {Q : Exit → Act → World → Prop} (x y z : Operand) (e : SeV) (hg : Region.wanted op (yielded ops a.tmps) = true) (ho : op.op = .build 80 #[(0, x), (1, y), (2, z)]) (hx : a.eval x = .int .i64 (e.num : Int)) (hy : a.eval y = .int .i64 (e.busy : Int)) (hz : a.eval z = .slice e.ka e.xs.length e.kc)
    (h : wpList Try.prog ops Q rest (a.put op.dst (.agg (seV e).toArray)) w) : wpList Try.prog ops Q (op :: rest) a w :=
  wpList_val _ hg (run_buildSe e ho hx hy hz) h
/-- A row of sessions of one's own, from a base on; each row of keys one's own too, one behind the other. -/
structure LstS (W : World) (B : Nat) (v : Value) (E : List SeV) : Prop where
  own : W.ownsRow B 80 3 v E.length (rowS E)
  keys : ∀ e ∈ E, OwnQ W B (.slice e.ka e.xs.length e.kc) e.xs
  up : E.Pairwise (fun a b => ∀ x y : Addr, a.ka = some x → b.ka = some y → x.block < y.block)
  l32 : ∀ e ∈ E, ∀ x ∈ e.xs, x.length = 32
theorem LstS.nil (W : World) (B : Nat) : LstS W B (.slice none 0 0) [] := ⟨World.ownsRow_nil _ _ _ _, fun e h => (by cases h), List.Pairwise.nil, fun e h => (by cases h)⟩
theorem own_belowS {W W' : World} {B : Nat} {v : Value} {n : Nat} {ys : List Value} {t : TypeId} {s : Nat} (h : W.ownsRow B t s v n ys) (hb : Below W.heap.size W W') : W'.ownsRow B t s v n ys := by
  obtain ⟨h0, h1 | ⟨g, cap, cur, rfl, hg, hh, hr⟩⟩ := h
  · exact ⟨h0, .inl h1⟩
  · have hlt : g < W.heap.size := Blk.lt (cs := cur) (t := t) hh
    exact ⟨h0, .inr ⟨g, cap, cur, rfl, hg, (hb.block g hlt).trans hh, hr⟩⟩
theorem LstS.below {W W' : World} {B : Nat} {v : Value} {E : List SeV} (h : LstS W B v E) (hb : Below W.heap.size W W') : LstS W' B v E := ⟨own_belowS h.own hb, fun e he => (h.keys e he).below hb, h.up, h.l32⟩
theorem LstS.form {W : World} {B : Nat} {v : Value} {E : List SeV} (h : LstS W B v E) : ∃ ao cap, v = .slice ao E.length cap ∧ (0 < E.length → ∃ g, ao = some ⟨g, 0, none⟩) := by
  obtain ⟨h0, ⟨h1, h2⟩ | ⟨g, cap, cur, rfl, hb, hh, hx⟩⟩ := h.own
  · exact ⟨none, 0, by rw [h1, h2], fun h => by omega⟩
  · exact ⟨_, cap, rfl, fun _ => ⟨g, rfl⟩⟩
/-- One more. -/
theorem wpList_appendS {ops : Array Oper} {rest : List Oper} {o : Oper} {a : Act} {w : World} {Q : Exit → Act → World → Prop} (hgd : o.guard = none) (s x : Operand) (ho : o.op = .call { callee := .builtin .append, args := #[s, x], argTypes := #[61, 61] })
    (base : Nat) (v : Value) (E : List SeV) (hs : a.eval s = v) (hown : LstS w base v E) (z : Nat) (hx : a.eval x = .slice (some ⟨z, 0, none⟩) 1 1) (e : SeV) (hc : Blk w z (seV e).toArray 80) (hlen : E.length + 1 ≤ 1000) (hbase : base ≤ w.heap.size) (hk : OwnQ w base (.slice e.ka e.xs.length e.kc) e.xs) (hup : ∀ q ∈ E, ∀ x y : Addr, q.ka = some x → e.ka = some y → x.block < y.block) (h32 : ∀ x ∈ e.xs, x.length = 32)
    (h : ∀ v' w', Hid (LstS w' base v' (E ++ [e])) → Hid (w.grownBy w' v.ownBlock) → wpList Try.prog ops Q rest (a.put o.dst v') w') : wpList Try.prog ops Q (o :: rest) a w := by
  obtain ⟨i0, hi, hz0, hz1, hz2⟩ := infoSes
  refine wpList_append_own_at w hgd s x 61 ho base 80 i0 (.agg #[.int .i64 0, .int .i64 0, .slice none 0 0]) 3 40 Try.underlying61 hi hz0 hz1 hz2 rfl (by decide) v E.length (rowS E) hs hown.own ⟨z, 0, none⟩ 1 1 (seV e) hx rfl ?_ (seV_one e) (by unfold maxLen; omega) (by omega) hbase ?_
  · intro j u hj
    rw [Addr.add_mid, hc.cell]
    simpa using hj
  · intro v' w' h1 h2 _ h4
    have far : ∀ (u : Value) (n : Nat) (ys : List Value), w.ownsRow base 30 32 u n ys → w'.ownsRow base 30 32 u n ys := fun u n ys hu => by
      obtain ⟨q0, q1 | ⟨g, cap, cur, rfl, hB, hh, hr⟩⟩ := hu
      · exact ⟨q0, .inl q1⟩
      · refine ⟨q0, .inr ⟨g, cap, cur, rfl, hB, (h2.block g (Blk.lt (cs := cur) (t := 30) hh) (fun e1 => ?_)).trans hh, hr⟩⟩
        obtain ⟨r0, ⟨r1, _⟩ | ⟨g', cap', cur', r1, rB, rh, rr⟩⟩ := hown.own
        · rw [r1] at e1; cases e1
        · rw [r1] at e1
          have : g = g' := Option.some.inj e1
          subst this
          rw [hh] at rh
          injection rh with rh
          injection rh with _ rt _
          exact absurd rt (by decide)
    refine h v' w' (hide ⟨?_, fun q hq => ?_, ?_, ?_⟩) (hide h2)
    · rw [rowS_snoc, List.length_append, List.length_singleton]; exact h1
    · rcases List.mem_append.1 hq with hq | hq
      · exact far _ _ _ (hown.keys q hq)
      · rw [List.mem_singleton.1 hq]; exact far _ _ _ hk
    · rw [List.pairwise_append]
      exact ⟨hown.up, List.pairwise_singleton .., fun q hq b hb => by rw [List.mem_singleton.1 hb]; exact hup q hq⟩
    · intro q hq
      rcases List.mem_append.1 hq with hq | hq
      · exact hown.l32 q hq
      · rw [List.mem_singleton.1 hq]; exact h32
end Go.Proofs.Ytagnglkkmdeicaa
