/- One encoding, one object (pure). -/
import Derived.Test.YtjcfndiceinkjabDoorOL7
import Derived.Test.YtjcfndiceinkjabDoorOMm
namespace Go.Proofs.YtjcfndiceinkjabDoor
set_option linter.unusedVariables false
set_option linter.unusedSimpArgs false
open Go.RowKit

theorem time_wf {n : Int} (h : (Lit.int .i64 n).wf = true) : -9223372036854775808 ≤ n ∧ n ≤ 9223372036854775807 := by
  simpa [Lit.wf, IntKind.min, IntKind.max, IntKind.signed, IntKind.bits] using h
theorem time_inj (a b : ObjR) (ha : TxtSz a) (hb : TxtSz b) (h : timeN a = timeN b) : a.time = b.time := by
  have := time_wf ha.w; have := time_wf hb.w
  unfold timeN at h
  rw [IntKind.wrap_u64, IntKind.wrap_u64] at h
  omega
theorem timeN_lt (a : ObjR) : timeN a < 256 ^ 8 := by unfold timeN; rw [IntKind.wrap_u64]; omega
theorem u8_inj {a b : Nat} (ha : a < 256) (hb : b < 256) (h : UInt8.ofNat a = UInt8.ofNat b) : a = b := by
  have := congrArg UInt8.toNat h
  simp at this
  omega
/-- A number's bytes tell where they end, and the number. -/
theorem varGo_inj : ∀ (n a b : Nat) (s t : List UInt8), a < 128 ^ n * 256 → b < 128 ^ n * 256 → varGo n a ++ s = varGo n b ++ t → a = b ∧ s = t
  | 0, a, b, s, t, ha, hb, h => by
    simp only [varGo, List.cons_append, List.nil_append, List.cons.injEq] at h
    exact ⟨u8_inj (by omega) (by omega) h.1, h.2⟩
  | n + 1, a, b, s, t, ha, hb, h => by
    have e : 128 ^ (n + 1) = 128 * 128 ^ n := by rw [Nat.pow_succ, Nat.mul_comm]
    rw [e, Nat.mul_assoc] at ha hb
    unfold varGo at h
    by_cases h1 : a < 128
    · by_cases h2 : b < 128
      · rw [if_pos h1, if_pos h2] at h
        simp only [List.cons_append, List.nil_append, List.cons.injEq] at h
        exact ⟨u8_inj (by omega) (by omega) h.1, h.2⟩
      · rw [if_pos h1, if_neg h2] at h
        simp only [List.cons_append, List.nil_append, List.cons.injEq] at h
        have := u8_inj (by omega) (by omega) h.1
        omega
    · by_cases h2 : b < 128
      · rw [if_neg h1, if_pos h2] at h
        simp only [List.cons_append, List.nil_append, List.cons.injEq] at h
        have := u8_inj (by omega) (by omega) h.1
        omega
      · rw [if_neg h1, if_neg h2] at h
        simp only [List.cons_append, List.cons.injEq] at h
        have h3 := u8_inj (by omega) (by omega) h.1
        obtain ⟨h4, h5⟩ := varGo_inj n (a / 128) (b / 128) s t (by omega) (by omega) h.2
        exact ⟨by omega, h5⟩
theorem varB_inj {a b : Nat} {s t : List UInt8} (ha : a ≤ 18446744073709551615) (hb : b ≤ 18446744073709551615) (h : varB a ++ s = varB b ++ t) : a = b ∧ s = t :=
  varGo_inj 9 a b s t (by omega) (by omega) h
theorem cut_inj {x y s t : List UInt8} (hl : x.length = y.length) (h : x ++ s = y ++ t) : x = y ∧ s = t := List.append_inj h hl
theorem text_inj {x y s t : List UInt8} (hx : x.length ≤ 18446744073709551615) (hy : y.length ≤ 18446744073709551615) (h : varB x.length ++ x ++ s = varB y.length ++ y ++ t) : x = y ∧ s = t := by
  rw [List.append_assoc, List.append_assoc] at h
  obtain ⟨h1, h2⟩ := varB_inj hx hy h
  exact cut_inj h1 h2
theorem fix_inj : ∀ (n a b : Nat), a < 256 ^ n → b < 256 ^ n → fixB n a = fixB n b → a = b
  | 0, a, b, ha, hb, _ => by simp at ha hb; omega
  | n + 1, a, b, ha, hb, h => by
    simp only [fixB, List.cons.injEq] at h
    have h1 := congrArg UInt8.toNat h.1
    simp at h1
    rw [Nat.pow_succ] at ha hb
    have h2 := fix_inj n (a / 256) (b / 256) (by omega) (by omega) h.2
    omega
theorem parts_inj : ∀ (L M : List PartR), (∀ p ∈ L, okP p) → (∀ p ∈ M, okP p) → (∀ p ∈ L, p.2 ≤ 18446744073709551615) → (∀ p ∈ M, p.2 ≤ 18446744073709551615) → L.length = M.length → (L.map partB).flatten = (M.map partB).flatten → L = M
  | [], [], _, _, _, _, _, _ => rfl
  | [], _ :: _, _, _, _, _, hl, _ => by simp at hl
  | _ :: _, [], _, _, _, _, hl, _ => by simp at hl
  | (k, s) :: L, (l, t) :: M, h1, h2, h3, h4, hl, h => by
    simp only [List.map_cons, List.flatten_cons, partB, List.append_assoc] at h
    have e1 : k.length = 32 := h1 (k, s) (by simp)
    have e2 : l.length = 32 := h2 (l, t) (by simp)
    obtain ⟨ek, h5⟩ := cut_inj (by omega) h
    obtain ⟨es, h6⟩ := varB_inj (a := s) (b := t) (h3 (k, s) (by simp)) (h4 (l, t) (by simp)) h5
    rw [ek, es, parts_inj L M (fun p hp => h1 p (by simp [hp])) (fun p hp => h2 p (by simp [hp])) (fun p hp => h3 p (by simp [hp])) (fun p hp => h4 p (by simp [hp])) (by simpa using hl) h6]
theorem items_inj : ∀ (L M : List ItemR), (∀ p ∈ L, okI p) → (∀ p ∈ M, okI p) → (∀ p ∈ L, p.1.length ≤ 64 ∧ p.2.1 ≤ 255 ∧ p.2.2.1 ≤ 18446744073709551615) → (∀ p ∈ M, p.1.length ≤ 64 ∧ p.2.1 ≤ 255 ∧ p.2.2.1 ≤ 18446744073709551615) → L.length = M.length → (L.map itemB).flatten = (M.map itemB).flatten → L = M
  | [], [], _, _, _, _, _, _ => rfl
  | [], _ :: _, _, _, _, _, hl, _ => by simp at hl
  | _ :: _, [], _, _, _, _, hl, _ => by simp at hl
  | (a, m, s, k) :: L, (b, n, t, l) :: M, h1, h2, h3, h4, hl, h => by
    simp only [List.map_cons, List.flatten_cons, itemB, List.append_assoc] at h
    have e1 : k.length = 32 := h1 (a, m, s, k) (by simp)
    have e2 : l.length = 32 := h2 (b, n, t, l) (by simp)
    obtain ⟨q1, q2, q3⟩ := h3 (a, m, s, k) (by simp)
    obtain ⟨r1, r2, r3⟩ := h4 (b, n, t, l) (by simp)
    simp only at q1 q2 q3 r1 r2 r3
    rw [← List.append_assoc, ← List.append_assoc (varB b.length)] at h
    obtain ⟨ea, h5⟩ := text_inj (by omega) (by omega) h
    obtain ⟨h6, h7⟩ := cut_inj (by rw [fixB_len, fixB_len]) h5
    have em := fix_inj 1 m n (by omega) (by omega) h6
    obtain ⟨es, h8⟩ := varB_inj q3 r3 h7
    obtain ⟨ek, h9⟩ := cut_inj (by omega) h8
    rw [ea, em, es, ek, items_inj L M (fun p hp => h1 p (by simp [hp])) (fun p hp => h2 p (by simp [hp])) (fun p hp => h3 p (by simp [hp])) (fun p hp => h4 p (by simp [hp])) (by simpa using hl) h9]
theorem keys_inj : ∀ (L M : List (List UInt8)) (s t : List UInt8), (∀ p ∈ L, okK p) → (∀ p ∈ M, okK p) → L.length = M.length → L.flatten ++ s = M.flatten ++ t → L = M ∧ s = t
  | [], [], _, _, _, _, _, h => ⟨rfl, h⟩
  | [], _ :: _, _, _, _, _, hl, _ => by simp at hl
  | _ :: _, [], _, _, _, _, hl, _ => by simp at hl
  | k :: L, l :: M, s, t, h1, h2, hl, h => by
    simp only [List.flatten_cons, List.append_assoc] at h
    have e1 : k.length = 32 := h1 k (by simp)
    have e2 : l.length = 32 := h2 l (by simp)
    obtain ⟨ek, h5⟩ := cut_inj (by omega) h
    obtain ⟨eL, h6⟩ := keys_inj L M s t (fun p hp => h1 p (by simp [hp])) (fun p hp => h2 p (by simp [hp])) (by simpa using hl) h5
    exact ⟨by rw [ek, eL], h6⟩
theorem same_eq {a b : ObjR} (h : sameO a b = true) : a = b := by
  obtain ⟨k1, d1, p1, i1, t1, q1, m1, n1⟩ := a
  obtain ⟨k2, d2, p2, i2, t2, q2, m2, n2⟩ := b
  unfold sameO at h
  simp only [Bool.and_eq_true, decide_eq_true_eq, beq_iff_eq] at h
  obtain ⟨⟨⟨⟨⟨⟨⟨rfl, rfl⟩, rfl⟩, rfl⟩, rfl⟩, rfl⟩, rfl⟩, rfl⟩ := h
  rfl
theorem wrong_zero {o : ObjR} (h : wrongO o = 0) : othersO o = zeroO := by
  have hf : foreignO o = false := by
    cases hf : foreignO o with
    | false => rfl
    | true =>
      exfalso
      unfold wrongO at h
      have := wrong_kind (o := o) (by unfold wrongO; exact h)
      rw [if_neg (by omega), if_pos hf] at h
      exact absurd h (by decide)
  exact same_eq (by rw [foreign_eq, hf]; rfl)
theorem obj_1 {o : ObjR} (h : wrongO o = 0) (hk : o.kind = 1) : o = ⟨1, o.data, [], [], zero32, [], 0, []⟩ := by
  have := wrong_zero h
  unfold othersO zeroO at this
  rw [if_pos hk] at this
  obtain ⟨k1, d1, p1, i1, t1, q1, m1, n1⟩ := o
  simp only [ObjR.mk.injEq] at this hk ⊢
  simp_all
theorem obj_2 {o : ObjR} (h : wrongO o = 0) (hk : o.kind = 2) : o = ⟨2, [], o.parts, [], zero32, [], 0, []⟩ := by
  have := wrong_zero h
  unfold othersO zeroO at this
  rw [if_neg (by omega), if_pos hk] at this
  obtain ⟨k1, d1, p1, i1, t1, q1, m1, n1⟩ := o
  simp only [ObjR.mk.injEq] at this hk ⊢
  simp_all
theorem obj_3 {o : ObjR} (h : wrongO o = 0) (hk : o.kind = 3) : o = ⟨3, [], [], o.items, zero32, [], 0, []⟩ := by
  have := wrong_zero h
  unfold othersO zeroO at this
  rw [if_neg (by omega), if_neg (by omega), if_pos hk] at this
  obtain ⟨k1, d1, p1, i1, t1, q1, m1, n1⟩ := o
  simp only [ObjR.mk.injEq] at this hk ⊢
  simp_all
theorem obj_4 {o : ObjR} (h : wrongO o = 0) (hk : o.kind = 4) : o = ⟨4, [], [], [], o.tree, o.parents, o.time, o.note⟩ := by
  have := wrong_zero h
  unfold othersO zeroO at this
  rw [if_neg (by omega), if_neg (by omega), if_neg (by omega), if_pos hk] at this
  obtain ⟨k1, d1, p1, i1, t1, q1, m1, n1⟩ := o
  simp only [ObjR.mk.injEq] at this hk ⊢
  simp_all
/-- One encoding, one object. -/
theorem lay_inj {a b : ObjR} (ha : ObjOk a) (hb : ObjOk b) (ta : TxtSz a) (tb : TxtSz b) (wa : wrongO a = 0) (wb : wrongO b = 0) (h : layO a = layO b) : a = b := by
  unfold layO at h
  obtain ⟨h0, h1⟩ := cut_inj (by rw [fixB_len, fixB_len]) h
  have hk := fix_inj 1 _ _ (by have := ta.k; omega) (by have := tb.k; omega) h0
  obtain ⟨k1, k4⟩ := wrong_kind wa
  rw [← hk] at h1
  rcases (show a.kind = 1 ∨ a.kind = 2 ∨ a.kind = 3 ∨ a.kind = 4 by omega) with e | e | e | e
  · rw [if_pos e, if_pos e] at h1
    rw [obj_1 wa e, obj_1 wb (by omega), h1]
  · have n1 : ¬ a.kind = 1 := by omega
    simp only [if_neg n1, if_pos e] at h1
    have la := list_few (wrong_list wa e)
    have lb := list_few (wrong_list wb (by omega))
    obtain ⟨hl, h2⟩ := varB_inj (by omega) (by omega) h1
    have := parts_inj _ _ ha.p hb.p ta.q tb.q hl h2
    rw [obj_2 wa e, obj_2 wb (by omega), this]
  · have n1 : ¬ a.kind = 1 := by omega
    have n2 : ¬ a.kind = 2 := by omega
    simp only [if_neg n1, if_neg n2, if_pos e] at h1
    have la := tree_few (wrong_tree wa e)
    have lb := tree_few (wrong_tree wb (by omega))
    obtain ⟨hl, h2⟩ := varB_inj (by omega) (by omega) h1
    have := items_inj _ _ ha.i hb.i (fun p hp => ⟨la.2 p hp, ta.m p hp, ta.s p hp⟩) (fun p hp => ⟨lb.2 p hp, tb.m p hp, tb.s p hp⟩) hl h2
    rw [obj_3 wa e, obj_3 wb (by omega), this]
  · have n1 : ¬ a.kind = 1 := by omega
    have n2 : ¬ a.kind = 2 := by omega
    have n3 : ¬ a.kind = 3 := by omega
    simp only [if_neg n1, if_neg n2, if_neg n3, if_pos e] at h1
    have la := snap_few (wrong_snap wa e)
    have lb := snap_few (wrong_snap wb (by omega))
    simp only [List.append_assoc] at h1
    obtain ⟨et, h2⟩ := cut_inj (by rw [ha.t, hb.t]) h1
    obtain ⟨hl, h3⟩ := varB_inj (by omega) (by omega) h2
    obtain ⟨ep, h4⟩ := keys_inj _ _ _ _ ha.k hb.k hl h3
    obtain ⟨h5, h6⟩ := cut_inj (by rw [fixB_len, fixB_len]) h4
    have em := time_inj a b ta tb (fix_inj 8 _ _ (timeN_lt a) (timeN_lt b) h5)
    obtain ⟨en, _⟩ := text_inj (s := []) (t := []) (x := a.note) (y := b.note) (by omega) (by omega) (by simpa using h6)
    rw [obj_4 wa e, obj_4 wb (by omega), et, ep, em, en]
/-- Two objects that are taken: one encoding just if they are alike. -/
theorem enc_same {a b : ObjR} (ha : ObjOk a) (hb : ObjOk b) (ta : TxtSz a) (tb : TxtSz b) (ca : checkO a = 0) (cb : checkO b = 0) : (encO a == encO b) = sameO a b := by
  have ea : encO a = layO a := by unfold encO; rw [if_pos ca]
  have eb : encO b = layO b := by unfold encO; rw [if_pos cb]
  cases h : sameO a b with
  | true => rw [same_eq h]; simp
  | false =>
    rw [ea, eb]
    rw [beq_eq_false_iff_ne]
    intro e
    rw [lay_inj ha hb ta tb (lay_le ca).2.1 (lay_le cb).2.1 e, sameO_self] at h
    cases h
end Go.Proofs.YtjcfndiceinkjabDoor

/- ObjectUnlike, walked. -/
namespace Go.Proofs.YtjcfndiceinkjabDoor
set_option linter.unusedVariables false
set_option linter.unusedSimpArgs false
open Go.RowKit Go.Lib Go.Sort

theorem rdA_own {w : World} {base : Nat} {v : Value} {xs : List UInt8} (h : w.ownsRow base 5 1 v xs.length (xs.map u8c)) : RdA w v xs := .inl (Rd_owned h)
theorem run_conv {op : Oper} {ev : Operand → Value} {x : Operand} {v : Value} {xs : List UInt8} {w : World} (ho : op.op = .convert 23 9 x) (hx : ev x = v) (h : RdA w v xs) : (execOp ev op).run Tryd.prog w = .ok (.value (.string ⟨xs.toArray⟩)) w := by
  simp only [execOp, ho, hx, Sem.run_bind, conv_rdA w v xs h, Result.andThen_ok, Sem.run_pure]
set_option maxRecDepth 20000 in
set_option maxHeartbeats 8000000 in
theorem unlike_00 (w : World) (hT8 : Tabs8 w) (a b : ObjR) (va vb : ObjV) (ha : ObjRd w a va) (hb : ObjRd w b vb) (ta : TxtSz a) (tb : TxtSz b) (pa : a.parents.length < 9223372036854775807) (pb : b.parents.length < 9223372036854775807) (ca : checkO a = 0) (cb : checkO b = 0) : Calls Tryd.prog 4 #[.agg (objL a va).toArray, .agg (objL b vb).toArray] w (BoolC w true) := by
  obtain ⟨hT, hB0⟩ := two_made w a b va vb ha hb
  have AA : Hid (Blk ((w.alloc (.cells (objL a va).toArray 30)).alloc (.cells (objL b vb).toArray 30)) w.heap.size (objL a va).toArray 30) := hide hT.A
  have BB : Hid (Blk ((w.alloc (.cells (objL a va).toArray 30)).alloc (.cells (objL b vb).toArray 30)) (w.heap.size + 1) (objL b vb).toArray 30) := hide hT.B
  have OA : Hid ((objL a va).toArray.size = 39) := hide (objL_size a va ha.ok.t)
  have OB : Hid ((objL b vb).toArray.size = 39) := hide (objL_size b vb hb.ok.t)
  have HW := hide hB0
  have RA := hide ha
  have RB := hide hb
  have H8 := hide hT8
  have TA := hide ta
  have TB := hide tb
  have PA := hide pa
  have PB := hide pb
  have HS := hide (fun c1 c2 => enc_same ha.ok hb.ok ta tb c1 c2)
  have CA := hide ca
  have CB := hide cb
  have fa : (checkO a == 0) = true := by simpa using ca
  have fb : (checkO b == 0) = true := by simpa using cb
  have na : (checkO a != 0) = false := by simpa using ca
  have nb : (checkO b != 0) = false := by simpa using cb
  obtain ⟨ka, hka⟩ : ∃ x, x = checkO a := ⟨_, rfl⟩
  obtain ⟨kb, hkb⟩ : ∃ x, x = checkO b := ⟨_, rfl⟩
  rw [← hka] at fa na
  rw [← hkb] at fb nb
  have KA := hide hka
  have KB := hide hkb
  clear ha hb hT8 ta tb pa pb ca cb hT hB0 hka hkb
  obtain ⟨W0, hW0⟩ : ∃ W, W = (w.alloc (.cells (objL a va).toArray 30)).alloc (.cells (objL b vb).toArray 30) := ⟨_, rfl⟩
  go_enter Tryd.func4, Tryd.ntmps4
  go_wp2_with (first
    | ((with_reducible refine wpList_load_obj (.tmp 2) w.heap.size (objL a va).toArray AA.out OA.out ?_ ?_ ?_ ?_); rfl; rfl; rfl))
  rw [← hW0] at HW AA BB ⊢
  refine (encode_any W0 (H8.out.below HW.out) a va (RA.out.below HW.out) TA.out).mono ?_
  rintro e W1 ⟨x1, rfl, o1, hb1⟩
  rw [← KA.out]
  have HW1 := hide (HW.out.trans (hb1.mono HW.out.size))
  have AA1 := hide (AA.out.below hb1 AA.out.lt)
  have BB1 := hide (BB.out.below hb1 BB.out.lt)
  have X1 := hide (rdA_own o1)
  obtain ⟨ax, cx, rfl⟩ := own_sl o1
  clear o1 hb1 HW AA BB hW0
  go_wp2_with (first
    | ((with_reducible refine wpList_load_obj (.tmp 3) (w.heap.size + 1) (objL b vb).toArray BB1.out OB.out ?_ ?_ ?_ ?_); rfl; rfl; rfl))
  refine (encode_any W1 (H8.out.below HW1.out) b vb (RB.out.below HW1.out) TB.out).mono ?_
  rintro e W2 ⟨y1, rfl, o2, hb2⟩
  rw [← KB.out]
  have HW2 := hide (HW1.out.trans (hb2.mono HW1.out.size))
  have AA2 := hide (AA1.out.below hb2 AA1.out.lt)
  have BB2 := hide (BB1.out.below hb2 BB1.out.lt)
  have X2 := hide (X1.out.below hb2)
  have Y2 := hide (rdA_own o2)
  obtain ⟨ay, cy, rfl⟩ := own_sl o2
  clear o2 hb2 HW1 AA1 BB1 X1
  go_wp2_with (first
    | ((with_reducible refine wpList_load_obj (.tmp 2) w.heap.size (objL a va).toArray AA2.out OA.out ?_ ?_ ?_ ?_); rfl; rfl; rfl))
  refine (rcheck_any W2 a va (RA.out.below HW2.out) TA.out PA.out).mono ?_
  rintro e W3 ⟨rfl, hb3⟩
  rw [← KA.out]
  have HW3 := hide (HW2.out.trans (hb3.mono HW2.out.size))
  have AA3 := hide (AA2.out.below hb3 AA2.out.lt)
  have BB3 := hide (BB2.out.below hb3 BB2.out.lt)
  have X3 := hide (X2.out.below hb3)
  have Y3 := hide (Y2.out.below hb3)
  clear hb3 HW2 AA2 BB2 X2 Y2
  go_wp2_with (first
    | ((with_reducible refine wpList_load_obj (.tmp 3) (w.heap.size + 1) (objL b vb).toArray BB3.out OB.out ?_ ?_ ?_ ?_); rfl; rfl; exact wanted_yes (j := 6) (b := false) (t := 25) rfl rfl rfl (by decide : (25 : Nat) < 48)))
  refine (rcheck_any W3 b vb (RB.out.below HW3.out) TB.out PB.out).mono ?_
  rintro e W4 ⟨rfl, hb4⟩
  rw [← KB.out]
  have HW4 := hide (HW3.out.trans (hb4.mono HW3.out.size))
  have AA4 := hide (AA3.out.below hb4 AA3.out.lt)
  have BB4 := hide (BB3.out.below hb4 BB3.out.lt)
  have X4 := hide (X3.out.below hb4)
  have Y4 := hide (Y3.out.below hb4)
  clear hb4 HW3 AA3 BB3 X3 Y3
  have LA : Hid (∀ (d : Nat) (os : Array Obj), Blk (grow (redrawn W4 d) os) w.heap.size (objL a va).toArray 30) := hide (fun d os => AA4.out.below (below_regrown W4 d os) AA4.out.lt)
  have LB : Hid (∀ (d : Nat) (os : Array Obj), Blk (grow (redrawn W4 d) os) (w.heap.size + 1) (objL b vb).toArray 30) := hide (fun d os => BB4.out.below (below_regrown W4 d os) BB4.out.lt)
  have XA : Hid (∀ (d : Nat) (os : Array Obj), RdA (grow (redrawn W4 d) os) (.slice ax (encO a).length cx) (encO a)) := hide (fun d os => X4.out.below (below_regrown W4 d os))
  have XB : Hid (∀ (d : Nat) (os : Array Obj), RdA (grow (redrawn W4 d) os) (.slice ay (encO b).length cy) (encO b)) := hide (fun d os => Y4.out.below (below_regrown W4 d os))
  have HSm : Hid (∀ (d : Nat) (os : Array Obj), Calls Tryd.prog 8 #[.agg (objL a va).toArray, .agg (objL b vb).toArray] (grow (redrawn W4 d) os) (BoolC (grow (redrawn W4 d) os) (sameO a b))) := hide (fun d os => rsame_any _ a b va vb ((RA.out.below HW4.out).below (below_regrown W4 d os)) ((RB.out.below HW4.out).below (below_regrown W4 d os)))
  obtain ⟨ea, hea⟩ : ∃ x, x = encO a := ⟨_, rfl⟩
  obtain ⟨eb, heb⟩ : ∃ x, x = encO b := ⟨_, rfl⟩
  obtain ⟨sm, hsm⟩ : ∃ x, x = sameO a b := ⟨_, rfl⟩
  have hee : (ea == eb) = sm := by rw [hea, heb, hsm]; exact HS.out CA.out CB.out
  have hss : (sm == sm) = true := by simp
  rw [← hea] at XA ⊢
  rw [← heb] at XB ⊢
  rw [← hsm] at HSm
  clear hea heb hsm HS X4 Y4 AA4 BB4
  go_wp2_with fail
  refine wp_region_quiet_below (by kernel_rfl) (by kernel_rfl) ?_
  quiet_step (fail)
  refine wpQuiet_val (.string ⟨ea.toArray⟩) rfl (fun w hw => ?_) ?_
  · obtain ⟨p, rfl⟩ := hw
    exact run_conv rfl rfl (XA.out _ _)
  quiet_step (fail)
  refine wpQuiet_val (.string ⟨eb.toArray⟩) rfl (fun w hw => ?_) ?_
  · obtain ⟨p, rfl⟩ := hw
    exact run_conv rfl rfl (XB.out _ _)
  quiet_step (fail)
  refine wpQuiet_val (.agg (objL a va).toArray) rfl (fun w hw => ?_) ?_
  · obtain ⟨p, rfl⟩ := hw
    exact run_load rfl rfl (loadAt_obj (LA.out _ _) OA.out)
  refine wpQuiet_val (.agg (objL b vb).toArray) rfl (fun w hw => ?_) ?_
  · obtain ⟨p, rfl⟩ := hw
    exact run_load rfl rfl (loadAt_obj (LB.out _ _) OB.out)
  quiet_step (exact Calls.regrown_of (HSm.out _ _))
  quiet_step (fail)
  quiet_step (fail)
  refine wpQuiet_nil ?_
  rintro W5 ⟨p, rfl⟩
  have HW5 := hide (HW4.out.trans ((below_regrown W4 p.d p.os).mono HW4.out.size))
  go_wp2
  go_ret
  exact ⟨rfl, HW5.out⟩
set_option maxRecDepth 20000 in
set_option maxHeartbeats 8000000 in
theorem unlike_01 (w : World) (hT8 : Tabs8 w) (a b : ObjR) (va vb : ObjV) (ha : ObjRd w a va) (hb : ObjRd w b vb) (ta : TxtSz a) (tb : TxtSz b) (pa : a.parents.length < 9223372036854775807) (pb : b.parents.length < 9223372036854775807) (ca : checkO a = 0) (cb : checkO b ≠ 0) : Calls Tryd.prog 4 #[.agg (objL a va).toArray, .agg (objL b vb).toArray] w (BoolC w true) := by
  obtain ⟨hT, hB0⟩ := two_made w a b va vb ha hb
  have AA : Hid (Blk ((w.alloc (.cells (objL a va).toArray 30)).alloc (.cells (objL b vb).toArray 30)) w.heap.size (objL a va).toArray 30) := hide hT.A
  have BB : Hid (Blk ((w.alloc (.cells (objL a va).toArray 30)).alloc (.cells (objL b vb).toArray 30)) (w.heap.size + 1) (objL b vb).toArray 30) := hide hT.B
  have OA : Hid ((objL a va).toArray.size = 39) := hide (objL_size a va ha.ok.t)
  have OB : Hid ((objL b vb).toArray.size = 39) := hide (objL_size b vb hb.ok.t)
  have HW := hide hB0
  have RA := hide ha
  have RB := hide hb
  have H8 := hide hT8
  have TA := hide ta
  have TB := hide tb
  have PA := hide pa
  have PB := hide pb
  have HS := hide (fun c1 c2 => enc_same ha.ok hb.ok ta tb c1 c2)
  have CA := hide ca
  have CB := hide cb
  have fa : (checkO a == 0) = true := by simpa using ca
  have fb : (checkO b == 0) = false := by simpa using cb
  have na : (checkO a != 0) = false := by simpa using ca
  have nb : (checkO b != 0) = true := by simpa using cb
  obtain ⟨ka, hka⟩ : ∃ x, x = checkO a := ⟨_, rfl⟩
  obtain ⟨kb, hkb⟩ : ∃ x, x = checkO b := ⟨_, rfl⟩
  rw [← hka] at fa na
  rw [← hkb] at fb nb
  have KA := hide hka
  have KB := hide hkb
  clear ha hb hT8 ta tb pa pb ca cb hT hB0 hka hkb
  obtain ⟨W0, hW0⟩ : ∃ W, W = (w.alloc (.cells (objL a va).toArray 30)).alloc (.cells (objL b vb).toArray 30) := ⟨_, rfl⟩
  go_enter Tryd.func4, Tryd.ntmps4
  go_wp2_with (first
    | ((with_reducible refine wpList_load_obj (.tmp 2) w.heap.size (objL a va).toArray AA.out OA.out ?_ ?_ ?_ ?_); rfl; rfl; rfl))
  rw [← hW0] at HW AA BB ⊢
  refine (encode_any W0 (H8.out.below HW.out) a va (RA.out.below HW.out) TA.out).mono ?_
  rintro e W1 ⟨x1, rfl, o1, hb1⟩
  rw [← KA.out]
  have HW1 := hide (HW.out.trans (hb1.mono HW.out.size))
  have AA1 := hide (AA.out.below hb1 AA.out.lt)
  have BB1 := hide (BB.out.below hb1 BB.out.lt)
  have X1 := hide (rdA_own o1)
  obtain ⟨ax, cx, rfl⟩ := own_sl o1
  clear o1 hb1 HW AA BB hW0
  go_wp2_with (first
    | ((with_reducible refine wpList_load_obj (.tmp 3) (w.heap.size + 1) (objL b vb).toArray BB1.out OB.out ?_ ?_ ?_ ?_); rfl; rfl; rfl))
  refine (encode_any W1 (H8.out.below HW1.out) b vb (RB.out.below HW1.out) TB.out).mono ?_
  rintro e W2 ⟨y1, rfl, o2, hb2⟩
  rw [← KB.out]
  have HW2 := hide (HW1.out.trans (hb2.mono HW1.out.size))
  have AA2 := hide (AA1.out.below hb2 AA1.out.lt)
  have BB2 := hide (BB1.out.below hb2 BB1.out.lt)
  have X2 := hide (X1.out.below hb2)
  have Y2 := hide (rdA_own o2)
  obtain ⟨ay, cy, rfl⟩ := own_sl o2
  clear o2 hb2 HW1 AA1 BB1 X1
  go_wp2_with (first
    | ((with_reducible refine wpList_load_obj (.tmp 2) w.heap.size (objL a va).toArray AA2.out OA.out ?_ ?_ ?_ ?_); rfl; rfl; rfl))
  refine (rcheck_any W2 a va (RA.out.below HW2.out) TA.out PA.out).mono ?_
  rintro e W3 ⟨rfl, hb3⟩
  rw [← KA.out]
  have HW3 := hide (HW2.out.trans (hb3.mono HW2.out.size))
  have AA3 := hide (AA2.out.below hb3 AA2.out.lt)
  have BB3 := hide (BB2.out.below hb3 BB2.out.lt)
  have X3 := hide (X2.out.below hb3)
  have Y3 := hide (Y2.out.below hb3)
  clear hb3 HW2 AA2 BB2 X2 Y2
  go_wp2_with (first
    | ((with_reducible refine wpList_load_obj (.tmp 3) (w.heap.size + 1) (objL b vb).toArray BB3.out OB.out ?_ ?_ ?_ ?_); rfl; rfl; exact wanted_yes (j := 6) (b := false) (t := 25) rfl rfl rfl (by decide : (25 : Nat) < 48)))
  refine (rcheck_any W3 b vb (RB.out.below HW3.out) TB.out PB.out).mono ?_
  rintro e W4 ⟨rfl, hb4⟩
  rw [← KB.out]
  have HW4 := hide (HW3.out.trans (hb4.mono HW3.out.size))
  have AA4 := hide (AA3.out.below hb4 AA3.out.lt)
  have BB4 := hide (BB3.out.below hb4 BB3.out.lt)
  have X4 := hide (X3.out.below hb4)
  have Y4 := hide (Y3.out.below hb4)
  clear hb4 HW3 AA3 BB3 X3 Y3
  go_wp2
  go_ret
  exact ⟨rfl, HW4.out⟩
set_option maxRecDepth 20000 in
set_option maxHeartbeats 8000000 in
theorem unlike_10 (w : World) (hT8 : Tabs8 w) (a b : ObjR) (va vb : ObjV) (ha : ObjRd w a va) (hb : ObjRd w b vb) (ta : TxtSz a) (tb : TxtSz b) (pa : a.parents.length < 9223372036854775807) (pb : b.parents.length < 9223372036854775807) (ca : checkO a ≠ 0) (cb : checkO b = 0) : Calls Tryd.prog 4 #[.agg (objL a va).toArray, .agg (objL b vb).toArray] w (BoolC w true) := by
  obtain ⟨hT, hB0⟩ := two_made w a b va vb ha hb
  have AA : Hid (Blk ((w.alloc (.cells (objL a va).toArray 30)).alloc (.cells (objL b vb).toArray 30)) w.heap.size (objL a va).toArray 30) := hide hT.A
  have BB : Hid (Blk ((w.alloc (.cells (objL a va).toArray 30)).alloc (.cells (objL b vb).toArray 30)) (w.heap.size + 1) (objL b vb).toArray 30) := hide hT.B
  have OA : Hid ((objL a va).toArray.size = 39) := hide (objL_size a va ha.ok.t)
  have OB : Hid ((objL b vb).toArray.size = 39) := hide (objL_size b vb hb.ok.t)
  have HW := hide hB0
  have RA := hide ha
  have RB := hide hb
  have H8 := hide hT8
  have TA := hide ta
  have TB := hide tb
  have PA := hide pa
  have PB := hide pb
  have HS := hide (fun c1 c2 => enc_same ha.ok hb.ok ta tb c1 c2)
  have CA := hide ca
  have CB := hide cb
  have fa : (checkO a == 0) = false := by simpa using ca
  have fb : (checkO b == 0) = true := by simpa using cb
  have na : (checkO a != 0) = true := by simpa using ca
  have nb : (checkO b != 0) = false := by simpa using cb
  obtain ⟨ka, hka⟩ : ∃ x, x = checkO a := ⟨_, rfl⟩
  obtain ⟨kb, hkb⟩ : ∃ x, x = checkO b := ⟨_, rfl⟩
  rw [← hka] at fa na
  rw [← hkb] at fb nb
  have KA := hide hka
  have KB := hide hkb
  clear ha hb hT8 ta tb pa pb ca cb hT hB0 hka hkb
  obtain ⟨W0, hW0⟩ : ∃ W, W = (w.alloc (.cells (objL a va).toArray 30)).alloc (.cells (objL b vb).toArray 30) := ⟨_, rfl⟩
  go_enter Tryd.func4, Tryd.ntmps4
  go_wp2_with (first
    | ((with_reducible refine wpList_load_obj (.tmp 2) w.heap.size (objL a va).toArray AA.out OA.out ?_ ?_ ?_ ?_); rfl; rfl; rfl))
  rw [← hW0] at HW AA BB ⊢
  refine (encode_any W0 (H8.out.below HW.out) a va (RA.out.below HW.out) TA.out).mono ?_
  rintro e W1 ⟨x1, rfl, o1, hb1⟩
  rw [← KA.out]
  have HW1 := hide (HW.out.trans (hb1.mono HW.out.size))
  have AA1 := hide (AA.out.below hb1 AA.out.lt)
  have BB1 := hide (BB.out.below hb1 BB.out.lt)
  have X1 := hide (rdA_own o1)
  obtain ⟨ax, cx, rfl⟩ := own_sl o1
  clear o1 hb1 HW AA BB hW0
  go_wp2_with (first
    | ((with_reducible refine wpList_load_obj (.tmp 3) (w.heap.size + 1) (objL b vb).toArray BB1.out OB.out ?_ ?_ ?_ ?_); rfl; rfl; rfl))
  refine (encode_any W1 (H8.out.below HW1.out) b vb (RB.out.below HW1.out) TB.out).mono ?_
  rintro e W2 ⟨y1, rfl, o2, hb2⟩
  rw [← KB.out]
  have HW2 := hide (HW1.out.trans (hb2.mono HW1.out.size))
  have AA2 := hide (AA1.out.below hb2 AA1.out.lt)
  have BB2 := hide (BB1.out.below hb2 BB1.out.lt)
  have X2 := hide (X1.out.below hb2)
  have Y2 := hide (rdA_own o2)
  obtain ⟨ay, cy, rfl⟩ := own_sl o2
  clear o2 hb2 HW1 AA1 BB1 X1
  go_wp2_with (first
    | ((with_reducible refine wpList_load_obj (.tmp 2) w.heap.size (objL a va).toArray AA2.out OA.out ?_ ?_ ?_ ?_); rfl; rfl; rfl))
  refine (rcheck_any W2 a va (RA.out.below HW2.out) TA.out PA.out).mono ?_
  rintro e W3 ⟨rfl, hb3⟩
  rw [← KA.out]
  have HW3 := hide (HW2.out.trans (hb3.mono HW2.out.size))
  have AA3 := hide (AA2.out.below hb3 AA2.out.lt)
  have BB3 := hide (BB2.out.below hb3 BB2.out.lt)
  have X3 := hide (X2.out.below hb3)
  have Y3 := hide (Y2.out.below hb3)
  clear hb3 HW2 AA2 BB2 X2 Y2
  go_wp2_with (first
    | ((with_reducible refine wpList_load_obj (.tmp 3) (w.heap.size + 1) (objL b vb).toArray BB3.out OB.out ?_ ?_ ?_ ?_); rfl; rfl; exact wanted_yes (j := 6) (b := false) (t := 25) rfl rfl rfl (by decide : (25 : Nat) < 48)))
  refine (rcheck_any W3 b vb (RB.out.below HW3.out) TB.out PB.out).mono ?_
  rintro e W4 ⟨rfl, hb4⟩
  rw [← KB.out]
  have HW4 := hide (HW3.out.trans (hb4.mono HW3.out.size))
  have AA4 := hide (AA3.out.below hb4 AA3.out.lt)
  have BB4 := hide (BB3.out.below hb4 BB3.out.lt)
  have X4 := hide (X3.out.below hb4)
  have Y4 := hide (Y3.out.below hb4)
  clear hb4 HW3 AA3 BB3 X3 Y3
  go_wp2
  go_ret
  exact ⟨rfl, HW4.out⟩
set_option maxRecDepth 20000 in
set_option maxHeartbeats 8000000 in
theorem unlike_11 (w : World) (hT8 : Tabs8 w) (a b : ObjR) (va vb : ObjV) (ha : ObjRd w a va) (hb : ObjRd w b vb) (ta : TxtSz a) (tb : TxtSz b) (pa : a.parents.length < 9223372036854775807) (pb : b.parents.length < 9223372036854775807) (ca : checkO a ≠ 0) (cb : checkO b ≠ 0) : Calls Tryd.prog 4 #[.agg (objL a va).toArray, .agg (objL b vb).toArray] w (BoolC w true) := by
  obtain ⟨hT, hB0⟩ := two_made w a b va vb ha hb
  have AA : Hid (Blk ((w.alloc (.cells (objL a va).toArray 30)).alloc (.cells (objL b vb).toArray 30)) w.heap.size (objL a va).toArray 30) := hide hT.A
  have BB : Hid (Blk ((w.alloc (.cells (objL a va).toArray 30)).alloc (.cells (objL b vb).toArray 30)) (w.heap.size + 1) (objL b vb).toArray 30) := hide hT.B
  have OA : Hid ((objL a va).toArray.size = 39) := hide (objL_size a va ha.ok.t)
  have OB : Hid ((objL b vb).toArray.size = 39) := hide (objL_size b vb hb.ok.t)
  have HW := hide hB0
  have RA := hide ha
  have RB := hide hb
  have H8 := hide hT8
  have TA := hide ta
  have TB := hide tb
  have PA := hide pa
  have PB := hide pb
  have HS := hide (fun c1 c2 => enc_same ha.ok hb.ok ta tb c1 c2)
  have CA := hide ca
  have CB := hide cb
  have fa : (checkO a == 0) = false := by simpa using ca
  have fb : (checkO b == 0) = false := by simpa using cb
  have na : (checkO a != 0) = true := by simpa using ca
  have nb : (checkO b != 0) = true := by simpa using cb
  obtain ⟨ka, hka⟩ : ∃ x, x = checkO a := ⟨_, rfl⟩
  obtain ⟨kb, hkb⟩ : ∃ x, x = checkO b := ⟨_, rfl⟩
  rw [← hka] at fa na
  rw [← hkb] at fb nb
  have KA := hide hka
  have KB := hide hkb
  clear ha hb hT8 ta tb pa pb ca cb hT hB0 hka hkb
  obtain ⟨W0, hW0⟩ : ∃ W, W = (w.alloc (.cells (objL a va).toArray 30)).alloc (.cells (objL b vb).toArray 30) := ⟨_, rfl⟩
  go_enter Tryd.func4, Tryd.ntmps4
  go_wp2_with (first
    | ((with_reducible refine wpList_load_obj (.tmp 2) w.heap.size (objL a va).toArray AA.out OA.out ?_ ?_ ?_ ?_); rfl; rfl; rfl))
  rw [← hW0] at HW AA BB ⊢
  refine (encode_any W0 (H8.out.below HW.out) a va (RA.out.below HW.out) TA.out).mono ?_
  rintro e W1 ⟨x1, rfl, o1, hb1⟩
  rw [← KA.out]
  have HW1 := hide (HW.out.trans (hb1.mono HW.out.size))
  have AA1 := hide (AA.out.below hb1 AA.out.lt)
  have BB1 := hide (BB.out.below hb1 BB.out.lt)
  have X1 := hide (rdA_own o1)
  obtain ⟨ax, cx, rfl⟩ := own_sl o1
  clear o1 hb1 HW AA BB hW0
  go_wp2_with (first
    | ((with_reducible refine wpList_load_obj (.tmp 3) (w.heap.size + 1) (objL b vb).toArray BB1.out OB.out ?_ ?_ ?_ ?_); rfl; rfl; rfl))
  refine (encode_any W1 (H8.out.below HW1.out) b vb (RB.out.below HW1.out) TB.out).mono ?_
  rintro e W2 ⟨y1, rfl, o2, hb2⟩
  rw [← KB.out]
  have HW2 := hide (HW1.out.trans (hb2.mono HW1.out.size))
  have AA2 := hide (AA1.out.below hb2 AA1.out.lt)
  have BB2 := hide (BB1.out.below hb2 BB1.out.lt)
  have X2 := hide (X1.out.below hb2)
  have Y2 := hide (rdA_own o2)
  obtain ⟨ay, cy, rfl⟩ := own_sl o2
  clear o2 hb2 HW1 AA1 BB1 X1
  go_wp2_with (first
    | ((with_reducible refine wpList_load_obj (.tmp 2) w.heap.size (objL a va).toArray AA2.out OA.out ?_ ?_ ?_ ?_); rfl; rfl; rfl))
  refine (rcheck_any W2 a va (RA.out.below HW2.out) TA.out PA.out).mono ?_
  rintro e W3 ⟨rfl, hb3⟩
  rw [← KA.out]
  have HW3 := hide (HW2.out.trans (hb3.mono HW2.out.size))
  have AA3 := hide (AA2.out.below hb3 AA2.out.lt)
  have BB3 := hide (BB2.out.below hb3 BB2.out.lt)
  have X3 := hide (X2.out.below hb3)
  have Y3 := hide (Y2.out.below hb3)
  clear hb3 HW2 AA2 BB2 X2 Y2
  go_wp2_with (first
    | ((with_reducible refine wpList_load_obj (.tmp 3) (w.heap.size + 1) (objL b vb).toArray BB3.out OB.out ?_ ?_ ?_ ?_); rfl; rfl; exact wanted_yes (j := 6) (b := false) (t := 25) rfl rfl rfl (by decide : (25 : Nat) < 48)))
  refine (rcheck_any W3 b vb (RB.out.below HW3.out) TB.out PB.out).mono ?_
  rintro e W4 ⟨rfl, hb4⟩
  rw [← KB.out]
  have HW4 := hide (HW3.out.trans (hb4.mono HW3.out.size))
  have AA4 := hide (AA3.out.below hb4 AA3.out.lt)
  have BB4 := hide (BB3.out.below hb4 BB3.out.lt)
  have X4 := hide (X3.out.below hb4)
  have Y4 := hide (Y3.out.below hb4)
  clear hb4 HW3 AA3 BB3 X3 Y3
  go_wp2
  go_ret
  exact ⟨rfl, HW4.out⟩
theorem unlike_law (w : World) (hT8 : Tabs8 w) (a b : ObjR) (va vb : ObjV) (ha : ObjRd w a va) (hb : ObjRd w b vb) (ta : TxtSz a) (tb : TxtSz b) (pa : a.parents.length < 9223372036854775807) (pb : b.parents.length < 9223372036854775807) : Calls Tryd.prog 4 #[.agg (objL a va).toArray, .agg (objL b vb).toArray] w (BoolC w true) := by
  by_cases ca : checkO a = 0
  · by_cases cb : checkO b = 0
    · exact unlike_00 w hT8 a b va vb ha hb ta tb pa pb ca cb
    · exact unlike_01 w hT8 a b va vb ha hb ta tb pa pb ca cb
  · by_cases cb : checkO b = 0
    · exact unlike_10 w hT8 a b va vb ha hb ta tb pa pb ca cb
    · exact unlike_11 w hT8 a b va vb ha hb ta tb pa pb ca cb
end Go.Proofs.YtjcfndiceinkjabDoor
