/- IndexSweep: the law. -/
import Derived.Test.YtdigjpddmfolgaaIDR
namespace Go.Proofs.Ytdigjpddmfolgaa
set_option linter.unusedVariables false
set_option linter.unusedSimpArgs false
namespace TX
open Go.RowKit Go.Sort
set_option maxRecDepth 100000
set_option maxHeartbeats 8000000

abbrev SWT : TypeId := 54
theorem run_bdE1 {op : Oper} {ev : Operand → Value} {x : Operand} (ho : op.op = .build ET #[(1, x)]) (n : Int) (hx : ev x = .int .i64 n) (w : World) : (execOp ev op).run Try.prog w = .ok (.value (eV ⟨0, 0, n, 0⟩)) w := by
  simp only [execOp, ho]
  simp only [List.map_toArray, List.map_cons, List.map_nil, hx]
  kernel_rfl
theorem run_bdE0 {op : Oper} {ev : Operand → Value} (ho : op.op = .build ET #[]) (w : World) : (execOp ev op).run Try.prog w = .ok (.value (eV eZ)) w := by
  simp only [execOp, ho]
  simp only [List.map_toArray, List.map_nil]
  kernel_rfl
theorem run_bdK0 {op : Oper} {ev : Operand → Value} (ho : op.op = .build KT #[]) (w : World) : (execOp ev op).run Try.prog w = .ok (.value (kV kZ)) w := by
  simp only [execOp, ho]
  simp only [List.map_toArray, List.map_nil]
  kernel_rfl
section
variable {ops : Array Oper} {rest : List Oper} {op : Oper} {a : Act} {w : World} {Q : Exit → Act → World → Prop}
theorem wpList_stKB (hgd : op.guard = none) (x y : Operand) (ho : op.op = .store KT x y) (b : Nat) (hx : a.eval x = .pointer (some ⟨b, 0, none⟩)) (u k : KY) (hy : a.eval y = kV k) (hb : KB w b u)
    (h : ∀ w', Hid (KB w' b k) → Hid (w.grownBy w' (some b)) → wpList Try.prog ops Q rest (a.put op.dst undef) w') : wpList Try.prog ops Q (op :: rest) a w := by
  obtain ⟨k1, k2⟩ := setCells_blk hb (kA k) (by rw [kA_size, kA_size])
  refine wpList_skip _ hgd ?_ (h _ (hide k1) (hide k2))
  have hst := run_storeAt_mid (P := Try.prog) w b 0 KT (kA k) (there_row hb 0 _ (by rw [kA_size, kA_size]; omega)) (by rw [kA_size]; exact iK) (all_oneCell_toArray (kC_one k))
  simp only [execOp, ho, hx, hy, Sem.run_bind, hst, Result.andThen_ok, Sem.run_pure]
end
theorem flat_take (CH : List (List KY)) (n : Nat) : (CH.take n).flatten.length ≤ CH.flatten.length := by
  conv => rhs; rw [← List.take_append_drop n CH, List.flatten_append, List.length_append]
  omega
theorem wpList_valG {P : Program} {ops : Array Oper} {rest : List Oper} {op : Oper} {a : Act} {w : World} {Q : Exit → Act → World → Prop} (v : Value) (hg : Region.wanted op (yielded ops a.tmps) = true) (hr : (execOp a.eval op).run P w = .ok (.value v) w) (h : wpList P ops Q rest (a.put op.dst v) w) : wpList P ops Q (op :: rest) a w := by
  refine wpList_step fun K hK => ?_
  rw [if_pos hg]
  unfold Oper.wp
  rw [hr]
  exact hK _ _ h
def lenOf : Value → Nat
  | .slice _ n _ => n
  | _ => 0
theorem putF_dom {f : KY → Option EN} {F : List KY} {k : KY} {v : EN} (hd : ∀ q, (f q).isSome → q ∈ F) (hk : k ∈ F) : ∀ q, (putF f k v q).isSome → q ∈ F := by
  intro q hq
  unfold putF at hq
  split at hq
  · exact hd q hq
  · by_cases e : q = k
    · rw [e]; exact hk
    · rw [upd_other f _ e] at hq; exact hd q hq
theorem putF_mine {f : KY → Option EN} {k : KY} {v : EN} : (putF f k v k).isSome := by
  unfold putF
  split
  · assumption
  · rw [upd_same]; rfl
theorem putF_old {f : KY → Option EN} {k q : KY} {v : EN} (h : (f q).isSome) : (putF f k v q).isSome := by
  unfold putF
  split
  · exact h
  · by_cases e : q = k
    · rw [e, upd_same]; rfl
    · rw [upd_other f _ e]; exact h

/-- A box of a key with its entry is stored into. -/
theorem SwS.box {w0 W W' : World} {N x P ab : Nat} {v1 v2 tv gv : Value} {L : List Tab} {f : KY → Option EN} {told gone : List KY} {u : KY × EN} (h : SwS w0 W N v1 v2 x L f P tv told gv gone) (hb : Blk W ab (kdA u) KDT) (hg : W.grownBy W' (some ab)) (hN : N ≤ ab) : SwS w0 W' N v1 v2 x L f P tv told gv gone := by
  have hs := h.lt
  have ne : ∀ {b : Nat} {cs : Array Value} {t : TypeId}, Blk W b cs t → t ≠ KDT → some b ≠ some ab := fun hc ht e => by
    have e := Option.some.inj e
    subst e
    exact blk_ne hc hb ht rfl
  refine ⟨⟨hg.os.trans h.bel.os, hg.tape.trans h.bel.tape, hg.output.trans h.bel.output, Nat.le_trans h.bel.size hg.size, fun b hb2 => (hg.block b (by omega) (fun e => by have := Option.some.inj e; omega)).trans (h.bel.block b hb2)⟩,
    h.sx.grown hg (ne h.sx (by decide)), h.ix.same (fun b hb2 => hg.block b (h.ix.lt hb2) (fun e => by have := Option.some.inj e; subst this; exact h.ix.notB hb (by decide) (by decide) (by decide) hb2)), h.lowx,
    h.td.same (fun b hb2 => by obtain ⟨cs, hc⟩ := h.td.blk hb2; exact hg.block b (h.td.lt hb2).1 (ne hc (by decide))), h.gn.same (fun b hb2 => by obtain ⟨cs, hc⟩ := h.gn.blk hb2; exact hg.block b (h.gn.lt hb2).1 (ne hc (by decide))), h.ap⟩
theorem SwS.more {w0 W : World} {N x P P' : Nat} {v1 v2 tv gv : Value} {L : List Tab} {f : KY → Option EN} {told gone : List KY} (h : SwS w0 W N v1 v2 x L f P tv told gv gone) (hp : P ≤ P') : SwS w0 W N v1 v2 x L f P' tv told gv gone :=
  ⟨h.bel, h.sx, h.ix.more hp, h.lowx, h.td, h.gn, h.ap⟩
theorem flat_next (CH : List (List KY)) (m : Nat) (K : List KY) (h : CH[m]? = some K) : (CH.take (m + 1)).flatten.length = (CH.take m).flatten.length + K.length := by
  rw [List.take_add_one, h, List.flatten_append, List.length_append]
  simp
theorem changes_at {w0 : World} {N h so m : Nat} {ao : Option Addr} {c : Nat} {K : List KY} (hN : N = w0.heap.size) (hc : w0.cell? ⟨h, so + m, none⟩ = some (.slice ao K.length c)) (hk : KsR w0 (.slice ao K.length c) K) : ∀ W, Below N w0 W → W.cell? ⟨h, so + m, none⟩ = some (.slice ao K.length c) ∧ ∀ (i : Nat) (k : KY), K[i]? = some k → ∃ g s, ao = some ⟨g, s, none⟩ ∧ W.rangeAt g (s + i * 32) (kC k) := by
  intro W hb
  subst hN
  refine ⟨(hb.cell (World.block_lt_of_cell? w0 _ hc)).trans hc, fun i k hi => ?_⟩
  obtain ⟨ao2, c2, e, hr⟩ := hk.below hb
  cases e
  obtain ⟨g, s, rfl, h3⟩ := hr (by have := (List.getElem?_eq_some_iff.1 hi).1; omega)
  exact ⟨g, s, rfl, h3 i k hi⟩
theorem put_gone {w : World} {x : Nat} {L : List Tab} {f : KY → Option EN} {P : Nat} {k : KY} (h : IxL w x 16 L (upd f k none) P) (hP : P < 549755813888) (k2 : KY) (hk : k2 = k) (v : EN) : Calls Try.prog 13 #[.pointer (some ⟨x, 0, none⟩), kV k2, eV v] w fun e w' => e = .returned (.bool true) ∧ IxN w w' x L (upd f k2 (some v)) (P + 1) := by
  subst hk
  refine (put_ix h hP k2 v).mono ?_
  rintro e w' ⟨rfl, hn⟩
  unfold putF at hn
  rw [upd_same] at hn ⊢
  rw [if_neg (by decide), upd_upd] at hn
  exact ⟨rfl, hn⟩
/-- At the head of a round. -/
def SwH (w0 W : World) (N : Nat) (v1 v2 : Value) (x ab : Nat) (F : List KY) (CH : List (List KY)) (f0 : KY → Option EN) (tv : Value) (told : List KY) (gv : Value) (gone : List KY) (fo : Option (KY × EN)) : Prop :=
  ∃ L f, SwS w0 W N v1 v2 x L f (F.length + (CH.take told.length).flatten.length) tv told gv gone ∧ Blk W ab (kdA (fo.getD kdZ)) KDT ∧ SwP (F ++ CH.flatten) (fun x => (f0 x).isSome) f told gone (fo.map Prod.fst) ∧ gone.length ≤ (CH.take told.length).flatten.length ∧ (CH = [] → f = f0 ∧ gone = [] ∧ ∀ y ∈ told, (f0 y).isSome) ∧ (∀ z, fo = some z → (f z.1).isSome)
theorem sweep_law (w0 : World) (v1 v2 : Value) (F : List KY) (CH : List (List KY)) (hF : KsR w0 v1 F) (hC : ChR w0 v2 CH) (hM : F.length + CH.flatten.length ≤ 1048576) (hCl : CH.length ≤ 1048576) : Calls Try.prog 4 #[.agg #[v1, v2]] w0 fun e w' => e = .returned (.bool true) ∧ Below w0.heap.size w0 w' := by
  have HFR := hide (fun W (hb : Below w0.heap.size w0 W) => KsR.below hF hb)
  have HCR := hide (fun W (hb : Below w0.heap.size w0 W) => ChR.below hC hb)
  obtain ⟨a1, c1, rfl, hF1⟩ := hF
  obtain ⟨a2, c2, rfl, hC1⟩ := hC
  obtain ⟨N, hN⟩ : ∃ N, N = w0.heap.size := ⟨_, rfl⟩
  rw [← hN] at HFR HCR
  have HN := hide hN
  obtain ⟨n1, hn1⟩ : ∃ n, n = F.length := ⟨_, rfl⟩
  obtain ⟨n2, hn2⟩ : ∃ n, n = CH.length := ⟨_, rfl⟩
  have HFR2 : Hid (∀ W, Below N w0 W → ∀ (i : Nat) (k : KY), F[i]? = some k → ∃ h so, a1 = some ⟨h, so, none⟩ ∧ W.rangeAt h (so + i * 32) (kC k)) := hide (fun W hb i k hi => by
    obtain ⟨ao, c, e, hr⟩ := HFR.out W hb
    cases e
    obtain ⟨h, so, e2, h3⟩ := hr (by have := (List.getElem?_eq_some_iff.1 hi).1; omega)
    exact ⟨h, so, e2, h3 i k hi⟩)
  have HCR2 : Hid (∀ W, Below N w0 W → ∀ (j : Nat) (K : List KY), CH[j]? = some K → ∃ h so u, a2 = some ⟨h, so, none⟩ ∧ W.cell? ⟨h, so + j, none⟩ = some u ∧ KsR W u K) := hide (fun W hb j K hj => by
    obtain ⟨ao, c, e, hr⟩ := HCR.out W hb
    cases e
    obtain ⟨h, so, e2, h3⟩ := hr (by have := (List.getElem?_eq_some_iff.1 hj).1; omega)
    obtain ⟨u, h4, h5⟩ := h3 j K hj
    exact ⟨h, so, u, e2, h4, h5⟩)
  have HN1 : Hid (n1 = F.length) := hide hn1
  have HN2 : Hid (n2 = CH.length) := hide hn2
  have hn2b : n2 ≤ 1048576 := by omega
  rw [← hn1, ← hn2]
  have HM := hide hM
  have hn1b : n1 ≤ 1048576 := by omega
  clear hF1 hC1 HFR HCR hn1 hn2 hM
  go_enter Try.func4, Try.ntmps4
  go_upto_region 1 with fail
  refine name_world (fun W => Below N w0 W ∧ Blk W N #[.slice a1 n1 c1, .slice a2 n2 c2] SWT) (by rw [hN]; exact ⟨below_alloc w0 _, Blk.made w0 _ _⟩) ?_
  rintro W ⟨hB, hS⟩
  rw [← hN]
  have HB := hide hB
  have HSX := hide hS
  have HNew := hide (ixnew_any W)
  clear hB hS hN
  go_upto_region 4 with (go_at_call 6; (with_reducible refine HNew.out.mono ?_); rintro e W1 ⟨x, L, rfl, hx, hb, hlo⟩; have HX := hide hx; have HB1 := hide hb; have HLO := hide hlo; clear hx hb hlo)
  have HS0 : Hid (SwS w0 W1 N (.slice a1 n1 c1) (.slice a2 n2 c2) x L (fun _ => none) 0 (.slice none 0 0) [] (.slice none 0 0) []) := hide (by
    have s0 := Blk.lt HSX.out
    exact ⟨HB.out.trans (HB1.out.mono (by omega)), Blk.below HSX.out HB1.out s0, HX.out, fun b hb => by have := HLO.out b hb; omega, OwnK.nil _ _, OwnK.nil _ _, fun b hb => by cases hb⟩)
  clear HB HSX HNew HX HB1 HLO
  go_upto_region 5 with fail
  go_loopw [4] (fun t wr => ∃ (i : Nat) (L : List Tab) (f : KY → Option EN), t = .int .i64 i ∧ i ≤ n1 ∧ SwS w0 wr N (.slice a1 n1 c1) (.slice a2 n2 c2) x L f i (.slice none 0 0) [] (.slice none 0 0) [] ∧ (∀ q, (f q).isSome → q ∈ F) ∧ (∀ (j : Nat) (q : KY), j < i → F[j]? = some q → (f q).isSome)) (fun t _ => n1 - (intOf t).toNat)
  case atStart => exact ⟨0, L, _, rfl, by omega, HS0.out, fun q hq => (by cases hq), fun j q hj => by omega⟩
  case round =>
    obtain ⟨i, L1, f, rfl, hi, hS, hd, hp⟩ := hrel
    have HS := hide hS
    have HD := hide hd
    have HP := hide hp
    have cX : wr.cell? ⟨N, 0, none⟩ = some (.slice a1 n1 c1) := by rw [hS.sx.cell]; rfl
    have lX := hS.lt
    clear hS hd hp HS0
    by_cases hlt : i < n1
    · have hji : (i : Int) < (n1 : Int) := by omega
      obtain ⟨k, hk⟩ : ∃ k, F[i]? = some k := ⟨_, List.getElem?_eq_getElem (by rw [← HN1.out]; exact hlt)⟩
      obtain ⟨h, so, rfl, hrg⟩ := HFR2.out wr HS.out.bel i k hk
      have HK := hide hk
      have HRG := hide hrg
      have HPut := hide (put_ix HS.out.ix (by omega) k ⟨0, 0, (i : Int), 0⟩)
      clear hk hrg
      go_upto_region 6 with (first | ((with_reducible refine wpList_ldK ?_ (.tmp 30) ?_ h (so + i * 32) ?_ k HRG.out ?_); rfl; rfl; rfl) | (refine wpList_val (eV ⟨0, 0, (i : Int), 0⟩) (by rfl) (run_bdE1 (by rfl) (i : Int) (by rfl) _) ?_) | (go_at_call 13; (with_reducible refine HPut.out.mono ?_); rintro e w2 ⟨rfl, hn⟩; obtain ⟨L2, h2⟩ := HS.out.turn hn; have HS2 := hide h2; clear hn h2))
      have HD2 := hide (putF_dom (v := ⟨0, 0, (i : Int), 0⟩) HD.out (List.mem_of_getElem? HK.out))
      have HP2 : Hid (∀ (j : Nat) (q : KY), j < i + 1 → F[j]? = some q → (putF f k ⟨0, 0, (i : Int), 0⟩ q).isSome) := hide (fun j q hj hq => by
        by_cases e : j = i
        · rw [e, HK.out] at hq
          cases hq
          exact putF_mine
        · exact putF_old (HP.out j q (by omega) hq))
      clear HPut HRG
      go_wp2
      go_roundw
      case rel => exact ⟨i + 1, L2, _, by go_num, by omega, HS2.out, HD2.out, HP2.out⟩
      case measure => simp [intOf]; omega
    · have hji : ¬ (i : Int) < (n1 : Int) := by omega
      obtain rfl : n1 = i := by omega
      have HLen := hide (len_ix HS.out.ix)
      go_upto_region 9 with (go_at_call 12; (with_reducible refine HLen.out.mono ?_); rintro e w2 ⟨A, hA, rfl, hb⟩; have HA := hide hA; have HS2 := hide (HS.out.below hb); clear hb hA)
      clear cX lX
      have cX : w2.cell? ⟨N, 0, none⟩ = some (.slice a1 n1 c1) := by rw [HS2.out.sx.cell]; rfl
      have lX := HS2.out.lt
      by_cases h0 : 0 < n1
      · have hzi : (0 : Int) < (n1 : Int) := by omega
        have hA0 : A.length ≠ 0 := fun e => by
          have h1 : A = [] := List.length_eq_zero_iff.1 e
          have hk : F[0]? = some (F[0]'(by have := HN1.out; omega)) := List.getElem?_eq_getElem _
          obtain ⟨v, hv⟩ := Option.isSome_iff_exists.1 (HP.out 0 _ h0 hk)
          have := (HA.out.mem _ _).2 hv
          rw [h1] at this
          cases this
        have hA1 : ¬ ((A.length : Int) = 0) := by omega
        go_upto_region 11 with fail
        clear h0 hzi hA0 hA1
        clear HLen HS
        have HG1 : Hid (∀ x ∈ F, (f x).isSome) := hide (fun q hq => by
          obtain ⟨j, hj, e⟩ := List.getElem_of_mem hq
          exact HP.out j q (by have := HN1.out; omega) (by rw [List.getElem?_eq_getElem hj, e]))
        have HNx := hide (next_all w2 HS2.out.ix kZ)
        have hzk := zero_KD
        go_upto_region 13 with (first | (refine wpList_val (kV kZ) (by rfl) (run_bdK0 (by rfl) _) ?_) | (go_at_call 14; (with_reducible refine HNx.out.mono ?_); rintro e w3 ⟨⟨fo, rfl, hl⟩, hb⟩; have HL := hide hl; have HS3 := hide (HS2.out.below hb); clear hb hl) | ((with_reducible refine wpList_stKD ?_ (.tmp 8) (.tmp 49) ?_ w3.heap.size ?_ kdZ (fo.getD kdZ) ?_ (Blk.made w3 _ _) ?_); rfl; rfl; rfl; rfl; intro w4 h4 hg4))
        have HS4 := hide (HS3.out.below (below_grownBy (grownBy_trans (World.grownBy_alloc w3 _ _) hg4.out) (Nat.le_refl _) (Nat.le_refl _)))
        have HAb0 : Hid (N ≤ w3.heap.size) := hide (by have := HS3.out.lt; omega)
        obtain ⟨ab, hab⟩ : ∃ ab, ab = w3.heap.size := ⟨_, rfl⟩
        rw [← hab] at h4 HAb0 ⊢
        have HAb := HAb0
        have HA4 := hide h4.out
        have HLC : Hid (∀ z, fo = some z → (f z.1).isSome) := hide (fun z hz => (lst_fst HL.out z.1 (by rw [hz]; rfl)).1)
        have HSP := hide (SwP.begin (E := F ++ CH.flatten) (fun k hk => List.mem_append.2 (.inl (HD.out k hk))) HL.out)
        clear h4 hg4 hab HNx HS2 HS3 HL hzk
        obtain ⟨eN, heN⟩ : ∃ n, n = (F ++ CH.flatten).length := ⟨_, rfl⟩
        have HEN := hide heN
        clear heN
        go_upto_region 14 with fail
        go_loopw [6, 7, 9, 10] (fun t6 t7 t9 t10 wr => ∃ (told gone : List KY) (fo : Option (KY × EN)), t9 = .bool fo.isSome ∧ t10 = .int .i64 (told.length : Int) ∧ SwH w0 wr N (.slice a1 n1 c1) (.slice a2 n2 c2) x ab F CH f t7 told t6 gone fo) (fun _ t7 _ _ _ => eN + 1 - lenOf t7)
        case atStart => exact ⟨[], [], fo, rfl, rfl, ⟨_, f, by have h := HS4.out; rw [show F.length + (CH.take ([] : List KY).length).flatten.length = n1 by simp [HN1.out]]; exact h, HA4.out, HSP.out, by simp, fun _ => ⟨rfl, rfl, fun y hy => (by cases hy)⟩, HLC.out⟩⟩
        case round =>
          clear HS4 HA4 HSP cX lX
          obtain ⟨told, gone, fo2, rfl, rfl, L3, g, hS, hA, hSP, hgl, hnc, hlc⟩ := hrel
          have HS := hide hS
          have HAB := hide hA
          have HSP := hide hSP
          have HGL := hide hgl
          have HNC := hide hnc
          have HLC3 := hide hlc
          obtain ⟨at2, ct, rfl, hat⟩ := hS.td.form
          have cX : wr.cell? ⟨N, 1, none⟩ = some (.slice a2 n2 c2) := by rw [hS.sx.cell]; rfl
          have lX := hS.lt
          clear hS hA hSP hgl hnc hlc
          cases fo2 with
          | none =>
            have HIn : Hid (∀ k ∈ F, (gone.any fun x => eqK x k) = true ∨ (told.any fun x => eqK x k) = true) := hide (fun k hk => by
              rcases HSP.out.todo k (HG1.out k hk) with g1 | g1 | ⟨c, e, _⟩
              · exact .inl (List.any_eq_true.2 ⟨k, g1, eqK_self k⟩)
              · exact .inr (List.any_eq_true.2 ⟨k, g1, eqK_self k⟩)
              · cases e)
            have HEnd : Hid (n2 = 0 → told.length = A.length) := hide (fun hz => by
              have hc : CH = [] := List.length_eq_zero_iff.1 (by rw [← HN2.out]; exact hz)
              obtain ⟨q1, q2, q3⟩ := HNC.out hc
              have l1 : told.length ≤ (A.map Prod.fst).length := List.Nodup.length_le_of_subset HSP.out.nd (fun z hz => by
                obtain ⟨v, hv⟩ := Option.isSome_iff_exists.1 (q3 z hz)
                exact List.mem_map.2 ⟨(z, v), (HA.out.mem z v).2 hv, rfl⟩)
              have l2 : (A.map Prod.fst).length ≤ told.length := List.Nodup.length_le_of_subset HA.out.nd (fun z hz => by
                obtain ⟨⟨z2, v⟩, h1, rfl⟩ := List.mem_map.1 hz
                have h2 := (HA.out.mem z2 v).1 h1
                rcases HSP.out.todo z2 (by show (f z2).isSome = true; rw [h2]; rfl) with g1 | g1 | ⟨c, e, _⟩
                · rw [q2] at g1; cases g1
                · exact g1
                · cases e)
              rw [List.length_map] at l1 l2
              omega)
            have HGb : Hid (gone.length ≤ 1048576) := hide (by have := flat_take CH told.length; have := HGL.out; have := HM.out; omega)
            have HTb : Hid (told.length ≤ 1048576) := hide (by have h1 := HSP.out.bound; rw [List.length_append] at h1; have := HM.out; omega)
            clear HSP HGL HNC HLC3 HAB hat
            go_upto_region 31 with fail
            try simp only [Option.isSome_none]
            go_loopw [15] (fun t w' => ∃ i : Nat, t = .int .i64 i ∧ i ≤ n1 ∧ Below wr.heap.size wr w') (fun t _ => n1 - (intOf t).toNat)
            case atStart => exact ⟨0, rfl, by omega, Below.refl _ _⟩
            case round =>
              rename_i wq
              obtain ⟨i, rfl, hi2, hbq⟩ := hrel
              have HSq := hide (HS.out.below hbq)
              have HBq := hide hbq
              clear cX lX hbq
              have cX : wr.cell? ⟨N, 0, none⟩ = some (.slice a1 n1 c1) := by rw [HSq.out.sx.cell]; rfl
              have cX1 : wr.cell? ⟨N, 1, none⟩ = some (.slice a2 n2 c2) := by rw [HSq.out.sx.cell]; rfl
              have lX := HSq.out.lt
              by_cases hlt3 : i < n1
              · have hji3 : (i : Int) < (n1 : Int) := by omega
                obtain ⟨k, hk⟩ : ∃ k, F[i]? = some k := ⟨_, List.getElem?_eq_getElem (by rw [← HN1.out]; exact hlt3)⟩
                obtain ⟨h, so, rfl, hrg⟩ := HFR2.out wr HSq.out.bel i k hk
                have HRG := hide hrg
                have HAg := hide (among_any wr k u6 gone HSq.out.gn.read (by have := HGb.out; omega))
                by_cases hg : (gone.any fun x => eqK x k) = true
                · rw [hg] at HAg
                  clear hg hk hrg cX1
                  go_wp2_with (first | ((with_reducible refine wpList_ldK ?_ (.tmp 130) ?_ h (so + i * 32) ?_ k HRG.out ?_); rfl; rfl; rfl) | (go_at_call 17; (with_reducible refine HAg.out.mono ?_); rintro e w6 ⟨rfl, hb6⟩; have HB6 := hide hb6; clear hb6))
                  go_roundw
                  case rel => exact ⟨i + 1, by go_num, by omega, HBq.out.trans (HB6.out.mono HBq.out.size)⟩
                  case measure => simp [intOf]; omega
                · have hg0 : (gone.any fun x => eqK x k) = false := (Bool.not_eq_true _).mp hg
                  rw [hg0] at HAg
                  have hT : (told.any fun x => eqK x k) = true := by
                    rcases HIn.out k (List.mem_of_getElem? hk) with e | e
                    · exact absurd e hg
                    · exact e
                  have HAt : Hid (∀ w6, Below wr.heap.size wr w6 → Calls Try.prog 17 #[kV k, .slice at2 told.length ct] w6 fun e w' => e = .returned (.bool true) ∧ Below w6.heap.size w6 w') := hide (fun w6 hb => by
                    have h1 := among_any w6 k (.slice at2 told.length ct) told ((HSq.out.below hb).td.read) (by have := HTb.out; omega)
                    rw [hT] at h1
                    exact h1)
                  clear hg hg0 hT hk hrg cX1
                  go_wp2_with (first | ((with_reducible refine wpList_ldK ?_ (.tmp 130) ?_ h (so + i * 32) ?_ k HRG.out ?_); rfl; rfl; rfl) | ((with_reducible refine wpList_valG (kV k) ?_ (run_loadO (x := .tmp 139) (p := .pointer (some ⟨h, so + i * 32, none⟩)) rfl ?_ (run_ldK HRG6.out)) ?_); rfl; rfl) | (go_at_call 17; first | ((with_reducible refine HAg.out.mono ?_); rintro e w6 ⟨rfl, hb6⟩; have HB6 := hide hb6; have cX6 : w6.cell? ⟨N, 0, none⟩ = some (.slice (some ⟨h, so, none⟩) n1 c1) := (by rw [(HSq.out.below hb6).sx.cell]; rfl); have lX6 := (HSq.out.below hb6).lt; have HRG6 : Hid (w6.rangeAt h (so + i * 32) (kC k)) := hide (fun q u hu => by have h4 := HRG.out q u hu; rw [← h4]; exact hb6.cell (World.block_lt_of_cell? wr _ h4)); clear hb6) | ((with_reducible refine (HAt.out w6 HB6.out).mono ?_); rintro e w7 ⟨rfl, hb7⟩; have HB7 := hide hb7; clear hb7)))
                  go_roundw
                  case rel => exact ⟨i + 1, by go_num, by omega, (HBq.out.trans (HB6.out.mono HBq.out.size)).trans (HB7.out.mono (Nat.le_trans HBq.out.size HB6.out.size))⟩
                  case measure => simp [intOf]; omega
              · obtain rfl : n1 = i := by omega
                have hji3 : ¬ ((n1 : Nat) : Int) < (n1 : Int) := by omega
                have HFin : Hid (Below w0.heap.size w0 wr) := hide (by rw [← HN.out]; exact HSq.out.bel)
                by_cases hz : 0 < n2
                · have hzi : (0 : Int) < (n2 : Int) := by omega
                  clear hz
                  go_wp2
                  go_ret
                  exact ⟨rfl, HFin.out⟩
                · have hlen := HEnd.out (by omega)
                  have hzi : ¬ (0 : Int) < (n2 : Int) := by omega
                  have HLen2 := hide hlen
                  clear hlen hz
                  go_wp2
                  go_ret
                  refine ⟨?_, HFin.out⟩
                  show Ending.returned (.bool ((told.length : Int) == (A.length : Int))) = _
                  rw [HLen2.out]
                  simp
          | some y =>
            have HTB := hide HSP.out.bound
            have HAT := hide hat
            obtain ⟨m, hm⟩ : ∃ m, m = told.length := ⟨_, rfl⟩
            have hmb : m ≤ 1048576 := by have := HTB.out; have := HM.out; rw [List.length_append] at *; omega
            clear hat
            go_upto_region 16 with fail
            rw [← hm] at HS HGL HAT HTB ⊢
            have HMl := hide hm
            clear hm
            by_cases hm0 : 0 < m
            · have hmi : (0 : Int) < (m : Int) := by omega
              obtain ⟨gt, rfl⟩ := HAT.out hm0
              obtain ⟨z, hz⟩ : ∃ z, told[m - 1]? = some z := ⟨_, List.getElem?_eq_getElem (by have := HMl.out; omega)⟩
              obtain ⟨ao9, c9, e9, hr9⟩ := HS.out.td.read
              have hr9 := hr9 (by have := HMl.out; omega)
              obtain ⟨h9, so9, e10, hr9⟩ := hr9
              have HRK : Hid (∀ w', Below wr.heap.size wr w' → w'.rangeAt ab 0 (kC y.1) ∧ w'.rangeAt gt ((m - 1) * 32) (kC z)) := hide (fun w' hb => by
                refine ⟨KD.key (Blk.below HAB.out hb (Blk.lt HAB.out)), ?_⟩
                have h1 := hr9 (m - 1) z hz
                rw [e10] at e9
                cases e9
                rw [Nat.zero_add] at h1
                intro q u hu
                have h4 := h1 q u hu
                rw [← h4]
                exact hb.cell (World.block_lt_of_cell? wr _ h4))
              have HBl := hide (lbelow_any wr.drew z y.1)
              rw [decide_eq_true (((HSP.out.rise y.1 rfl).2 z (List.mem_of_getElem? hz)))] at HBl
              have hm1 : 1 ≤ m := by omega
              clear hr9 e9 e10 hz
              refine wp_calm (sp_walk _ (fun _ _ _ _ _ h => h) wr gt m ct ab z y.1 hm1 (by omega) HRK.out HBl.out _ (Nat.lt_of_sub_pos (by exact Nat.succ_pos _)) rfl rfl ?_)
              intro w1 hB1
              simp only [Act.put, List.setIfInBounds_toArray, List.set_cons_zero, List.set_cons_succ, Exit.then]
              have HS1 := hide (HS.out.below hB1)
              have HAB1 := hide (Blk.below HAB.out hB1 (Blk.lt HAB.out))
              clear hB1 HRK HBl hm1 hmi HS HAB cX lX
              go_upto_region 18 with fail
              have HKY : Hid (w1.rangeAt ab 0 (kC y.1)) := hide (KD.key HAB1.out)
              have HS1a := hide (HS1.out.below (below_alloc w1 (.cells (kA y.1) KT)))
              have HML : Hid (told.length + 1 ≤ 3518437208832) := hide (by have := HMl.out; omega)
              have HNb : Hid (N + 1 ≤ (w1.alloc (.cells (kA y.1) KT)).heap.size) := hide (by have := HS1a.out.lt; omega)
              go_upto_region 19 with (first | ((with_reducible refine wpList_ldK ?_ (.tmp 70) ?_ ab 0 ?_ y.1 HKY.out ?_); rfl; rfl; rfl) | ((with_reducible refine wpList_bsK ?_ (.tmp 71) y.1 ?_ ?_ ?_); rfl; rfl; rfl) | ((with_reducible refine wpList_appK ?_ (.tmp 69) (.tmp 72) ?_ (N + 1) (.slice (some ⟨gt, 0, none⟩) m ct) told ?_ HS1a.out.td w1.heap.size ?_ y.1 (KB.made w1 y.1) HML.out HNb.out ?_); rfl; rfl; rfl; rfl; intro tv3 w3 h1 h2 h3))
              have HS3 := hide (HS1a.out.pushT h1.out h2.out h3.out)
              have HAB3 := hide (blk_push HS1a.out.td h2.out (Blk.alloc HAB1.out _) (by decide))
              have HSM := hide (SwP.enter HSP.out)
              obtain ⟨at3, ct3, rfl, _⟩ := h1.out.form
              have hl3 : (told ++ [y.1]).length = m + 1 := by rw [List.length_append, List.length_singleton, ← HMl.out]
              rw [hl3] at HS3 ⊢
              have cX : w3.cell? ⟨N, 1, none⟩ = some (.slice a2 n2 c2) := by rw [HS3.out.sx.cell]; rfl
              have lX := HS3.out.lt
              have HL3 := hide hl3
              have HB1 : Hid (m + 1 ≤ eN) := hide (by have := HSM.out.bound; have := HEN.out; omega)
              clear h1 h2 h3 hl3 HKY HS1a HML HNb HS1 HAB1
              by_cases hst : m < n2
              · have hsti : (m : Int) < (n2 : Int) := by omega
                go_upto_region 21 with fail
                obtain ⟨K, hK⟩ : ∃ K, CH[m]? = some K := ⟨_, List.getElem?_eq_getElem (by rw [← HN2.out]; exact hst)⟩
                obtain ⟨h7, so7, v7, rfl, hc7, ks7⟩ := HCR2.out w0 (Below.refl _ _) m K hK
                obtain ⟨kn, hkn⟩ : ∃ n, n = K.length := ⟨_, rfl⟩
                obtain ⟨ao7, c7, rfl⟩ : ∃ ao c, v7 = .slice ao K.length c := by
                  obtain ⟨ao, c, e, _⟩ := ks7
                  exact ⟨ao, c, e⟩
                have HC7 := hide (changes_at HN.out hc7 ks7)
                rw [← hkn] at HC7
                have HKn := hide hkn
                have HT7 := hide (flat_next CH m K hK)
                have HKE := hide hK
                obtain ⟨p0, hp0⟩ : ∃ n, n = (CH.take m).flatten.length := ⟨_, rfl⟩
                have HP0 := hide hp0
                rw [← hp0] at HS3 HGL HT7
                rw [← hkn] at HT7
                have HPB : Hid (F.length + p0 + kn ≤ 1048576) := hide (by have h1 := flat_take CH (m + 1); have h2 := HT7.out; have h3 := HM.out; omega)
                have hknb : kn ≤ 1048576 := by have := HPB.out; omega
                clear hc7 ks7 hkn hK hp0 cX lX
                go_loopw [6, 11] (fun t6 t11 w' => ∃ (j : Nat) (gone' : List KY) (L' : List Tab) (f' : KY → Option EN), t11 = .int .i64 j ∧ j ≤ kn ∧ SwS w0 w' N (.slice a1 n1 c1) (.slice (some ⟨h7, so7, none⟩) n2 c2) x L' f' (F.length + p0 + j) (.slice at3 (m + 1) ct3) (told ++ [y.1]) t6 gone' ∧ Blk w' ab (kdA (Option.getD (some y) kdZ)) KDT ∧ SwM (F ++ CH.flatten) (fun x => (f x).isSome) f' (told ++ [y.1]) gone' y.1 ∧ gone'.length ≤ p0 + j) (fun _ t11 _ => kn - (intOf t11).toNat)
                case atStart => exact ⟨0, gone, L3, g, rfl, by omega, HS3.out, HAB3.out, HSM.out, HGL.out⟩
                case round =>
                  obtain ⟨j, gone2, L4, g4, rfl, hj, hS, hA, hM4, hgl⟩ := hrel
                  have HS4 := hide hS
                  have HAB4 := hide hA
                  have HSM4 := hide hM4
                  have HGL4 := hide hgl
                  obtain ⟨cY, hk7⟩ := HC7.out wr hS.bel
                  have cX : wr.cell? ⟨N, 1, none⟩ = some (.slice (some ⟨h7, so7, none⟩) n2 c2) := by rw [hS.sx.cell]; rfl
                  have lX := hS.lt
                  clear hS hA hM4 hgl HS3 HAB3 HSM HGL
                  by_cases hlt : j < kn
                  · have hji : (j : Int) < (kn : Int) := by omega
                    obtain ⟨k, hk⟩ : ∃ k, K[j]? = some k := ⟨_, List.getElem?_eq_getElem (by rw [← HKn.out]; exact hlt)⟩
                    obtain ⟨hk1, sok, rfl, hrg⟩ := hk7 j k hk
                    have HRG := hide hrg
                    have HKI : Hid (k ∈ F ++ CH.flatten) := hide (List.mem_append.2 (.inr (List.mem_flatten.2 ⟨K, List.mem_of_getElem? HKE.out, List.mem_of_getElem? hk⟩)))
                    have hzk := zero_K
                    clear hk hrg hk7
                    go_upto_region 24 with (first | ((with_reducible refine wpList_ldK ?_ (.tmp 95) ?_ hk1 (sok + j * 32) ?_ k HRG.out ?_); rfl; rfl; rfl) | ((with_reducible refine wpList_stKB ?_ (.tmp 12) (.tmp 96) ?_ wr.heap.size ?_ kZ k ?_ (KB.made wr kZ) ?_); rfl; rfl; rfl; rfl; intro w4 h4 hg4))
                    have hb4 := below_grownBy (grownBy_trans (World.grownBy_alloc wr _ _) hg4.out) (Nat.le_refl _) (Nat.le_refl _)
                    have HS5 := hide (HS4.out.below hb4)
                    have HAB5 := hide (Blk.below HAB4.out hb4 (Blk.lt HAB4.out))
                    obtain ⟨zb, hzb⟩ : ∃ z, z = wr.heap.size := ⟨_, rfl⟩
                    rw [← hzb] at h4 ⊢
                    have HKB := hide h4.out
                    have HKY : Hid (w4.rangeAt zb 0 (kC k)) := hide (KB.rng HKB.out)
                    have HDel := hide (del_ix HS5.out.ix k)
                    unfold optV at HDel
                    clear h4 hg4 hb4 hzb HS4 HAB4 HRG cX cY lX hzk
                    have hze := zero_E
                    go_upto_region 25 with (first | ((with_reducible refine wpList_ldK ?_ (.tmp 12) ?_ zb 0 ?_ k HKY.out ?_); rfl; rfl; rfl) | (go_at_call 16; (with_reducible refine HDel.out.mono ?_); rintro e w5 ⟨rfl, hn⟩; obtain ⟨L5, h5⟩ := HS5.out.turn hn; have HS6 := hide h5; have HAB6 := hide (blk_turn HS5.out.ix hn HAB5.out (by decide) (by decide) (by decide)); have HKB6 : Hid (KB w5 zb k) := hide (blk_turn HS5.out.ix hn HKB.out (by decide) (by decide) (by decide)); clear hn h5) | ((with_reducible refine wpList_stEB ?_ (.tmp 13) (.tmp 101) ?_ w5.heap.size ?_ eZ ((g4 k).getD eZ) ?_ (EB.made w5 eZ) ?_); rfl; rfl; rfl; rfl; intro w6 h6 hg6))
                    have hb6 := below_grownBy (grownBy_trans (World.grownBy_alloc w5 _ _) hg6.out) (Nat.le_refl _) (Nat.le_refl _)
                    have HS7 := hide (HS6.out.below hb6)
                    have HAB7 := hide (Blk.below HAB6.out hb6 (Blk.lt HAB6.out))
                    have HKB7 : Hid (KB w6 zb k) := hide (Blk.below HKB6.out hb6 (Blk.lt HKB6.out))
                    have HKY7 : Hid (w6.rangeAt zb 0 (kC k)) := hide (KB.rng HKB7.out)
                    clear h6 hg6 hb6 HS5 HAB5 HKB HKY HDel HS6 HAB6 HKB6 hze
                    by_cases hq : (g4 k).isSome = true
                    · rw [hq]
                      clear hq
                      have HS7a := hide (HS7.out.below (below_alloc w6 (.cells (kA k) KT)))
                      have HML : Hid (gone2.length + 1 ≤ 3518437208832) := hide (by have := HPB.out; have := HGL4.out; omega)
                      have HNb : Hid (N + 1 ≤ (w6.alloc (.cells (kA k) KT)).heap.size) := hide (by have := HS7a.out.lt; omega)
                      go_upto_region 22 with (first | ((with_reducible refine wpList_ldK ?_ (.tmp 12) ?_ zb 0 ?_ k HKY7.out ?_); rfl; rfl; rfl) | ((with_reducible refine wpList_bsK ?_ (.tmp 105) k ?_ ?_ ?_); rfl; rfl; rfl) | ((with_reducible refine wpList_appK ?_ (.tmp 104) (.tmp 106) ?_ (N + 1) u6 gone2 ?_ HS7a.out.gn w6.heap.size ?_ k (KB.made w6 k) HML.out HNb.out ?_); rfl; rfl; rfl; rfl; intro gv3 w7 h1 h2 h3))
                      have HS8 := hide ((HS7a.out.pushG h1.out h2.out h3.out).more (show F.length + p0 + j ≤ F.length + p0 + (j + 1) by omega))
                      have HAB8 := hide (blk_push HS7a.out.gn h2.out (Blk.alloc HAB7.out _) (by decide))
                      clear h1 h2 h3 HS7 HS7a HAB7 HKB7 HKY7 HML HNb
                      go_wp2
                      go_roundw
                      case rel => exact ⟨j + 1, gone2 ++ [k], L5, _, by go_num, by omega, HS8.out, HAB8.out, HSM4.out.del, by have := HGL4.out; rw [List.length_append, List.length_singleton]; omega⟩
                      case measure => simp [intOf]; omega
                    · have hq0 : (g4 k).isSome = false := (Bool.not_eq_true _).mp hq
                      have HPut := hide (put_gone HS7.out.ix (by have := HPB.out; omega) k rfl eZ)
                      rw [hq0]
                      clear hq hq0
                      go_upto_region 22 with (first | ((with_reducible refine wpList_ldK ?_ (.tmp 12) ?_ zb 0 ?_ k HKY7.out ?_); rfl; rfl; rfl) | (refine wpList_val (eV eZ) (by rfl) (run_bdE0 (by rfl) _) ?_) | (go_at_call 13; (with_reducible refine HPut.out.mono ?_); rintro e w7 ⟨rfl, hn⟩; obtain ⟨L6, h6⟩ := HS7.out.turn hn; have HS8 := hide h6; have HAB8 := hide (blk_turn HS7.out.ix hn HAB7.out (by decide) (by decide) (by decide)); clear hn h6))
                      clear HS7 HAB7 HKB7 HKY7 HPut
                      go_wp2
                      go_roundw
                      case rel => exact ⟨j + 1, gone2, L6, _, by go_num, by omega, HS8.out, HAB8.out, HSM4.out.put HKI.out eZ, by have := HGL4.out; omega⟩
                      case measure => simp [intOf]; omega
                  · have hji : ¬ (j : Int) < (kn : Int) := by omega
                    obtain rfl : kn = j := by omega
                    clear cX lX cY hk7
                    have cX : wr.cell? ⟨N, 1, none⟩ = some (.slice (some ⟨h7, so7, none⟩) n2 c2) := by rw [HS4.out.sx.cell]; rfl
                    have cY := (HC7.out wr HS4.out.bel).1
                    have lX := HS4.out.lt
                    have HNx := hide (next_above wr HS4.out.ix y.1)
                    have HKY : Hid (wr.rangeAt ab 0 (kC y.1)) := hide (KD.key HAB4.out)
                    have HABN : Hid (N ≤ ab) := hide HAb.out
                    go_wp2_with (first | ((with_reducible refine wpList_ldK ?_ (.tmp 115) ?_ ab 0 ?_ y.1 HKY.out ?_); rfl; rfl; rfl) | (go_at_call 14; (with_reducible refine HNx.out.mono ?_); rintro e w4 ⟨⟨fo4, rfl, hl⟩, hb⟩; have HL := hide hl; have HS5 := hide (HS4.out.below hb); have HAB5 := hide (Blk.below HAB4.out hb (Blk.lt HAB4.out)); clear hb hl) | ((with_reducible refine wpList_stKD ?_ (.tmp 8) (.tmp 118) ?_ ab ?_ (Option.getD (some y) kdZ) (fo4.getD kdZ) ?_ HAB5.out ?_); rfl; rfl; rfl; rfl; intro w5 h5 hg5))
                    go_roundw
                    case rel =>
                      have e1 : (CH.take (told ++ [y.1]).length).flatten.length = p0 + kn := by rw [HL3.out]; exact HT7.out
                      refine ⟨told ++ [y.1], gone2, fo4, rfl, by rw [HL3.out]; go_num, L4, g4, ?_, h5.out, HSM4.out.leave HL.out, ?_, ?_, fun z hz => (lst_fst HL.out z.1 (by rw [hz]; rfl)).1⟩
                      · rw [e1, ← Nat.add_assoc]
                        exact HS5.out.box HAB5.out hg5.out HABN.out
                      · rw [e1]
                        exact HGL4.out
                      · intro hc
                        have := HKE.out
                        rw [hc] at this
                        cases this
                    case measure =>
                      have := HB1.out
                      have := HMl.out
                      simp [lenOf]
                      omega
              · have hsti : ¬ (m : Int) < (n2 : Int) := by omega
                have HNx := hide (next_above w3 HS3.out.ix y.1)
                have HKY : Hid (w3.rangeAt ab 0 (kC y.1)) := hide (KD.key HAB3.out)
                have HABN : Hid (N ≤ ab) := hide HAb.out
                go_wp2_with (first | ((with_reducible refine wpList_ldK ?_ (.tmp 115) ?_ ab 0 ?_ y.1 HKY.out ?_); rfl; rfl; rfl) | (go_at_call 14; (with_reducible refine HNx.out.mono ?_); rintro e w4 ⟨⟨fo4, rfl, hl⟩, hb⟩; have HL := hide hl; have HS4 := hide (HS3.out.below hb); have HAB4 := hide (Blk.below HAB3.out hb (Blk.lt HAB3.out)); clear hb hl) | ((with_reducible refine wpList_stKD ?_ (.tmp 8) (.tmp 118) ?_ ab ?_ (Option.getD (some y) kdZ) (fo4.getD kdZ) ?_ HAB4.out ?_); rfl; rfl; rfl; rfl; intro w5 h5 hg5))
                go_roundw
                case rel =>
                  refine ⟨told ++ [y.1], gone, fo4, rfl, by rw [HL3.out]; go_num, L3, g, ?_, h5.out, HSM.out.leave HL.out, ?_, ?_, fun z hz => (lst_fst HL.out z.1 (by rw [hz]; rfl)).1⟩
                  · have e1 : (CH.take (told ++ [y.1]).length).flatten.length = (CH.take m).flatten.length := by
                      have := HN2.out
                      rw [HL3.out, List.take_of_length_le (by omega), List.take_of_length_le (by omega)]
                    rw [e1]
                    exact HS4.out.box HAB4.out hg5.out HABN.out
                  · have e1 : (CH.take (told ++ [y.1]).length).flatten.length = (CH.take m).flatten.length := by
                      have := HN2.out
                      rw [HL3.out, List.take_of_length_le (by omega), List.take_of_length_le (by omega)]
                    rw [e1]
                    exact HGL.out
                  · intro hc
                    obtain ⟨q1, q2, q3⟩ := HNC.out hc
                    refine ⟨q1, q2, fun z hz => ?_⟩
                    rcases List.mem_append.1 hz with q | q
                    · exact q3 z q
                    · rw [List.mem_singleton.1 q, ← q1]
                      exact HLC3.out y rfl
                case measure =>
                  have := HB1.out
                  have := HMl.out
                  simp [lenOf]
                  omega
            · refine wp_calm (sz_walk _ (fun _ _ _ _ _ h => h) wr at2 m ct hm0 _ (Nat.lt_of_sub_pos (by exact Nat.succ_pos _)) rfl ?_)
              simp only [Act.put, List.setIfInBounds_toArray, List.set_cons_zero, List.set_cons_succ, Exit.then]
              have HS1 := hide (HS.out.below ((Below.refl _ wr).drew))
              have HAB1 := hide (Blk.below HAB.out ((Below.refl _ wr).drew) (Blk.lt HAB.out))
              obtain ⟨w1, hw1⟩ : ∃ w1, w1 = wr.drew := ⟨_, rfl⟩
              rw [← hw1] at HS1 HAB1 ⊢
              clear HS HAB cX lX hm0 hw1
              go_upto_region 18 with fail
              have HKY : Hid (w1.rangeAt ab 0 (kC y.1)) := hide (KD.key HAB1.out)
              have HS1a := hide (HS1.out.below (below_alloc w1 (.cells (kA y.1) KT)))
              have HML : Hid (told.length + 1 ≤ 3518437208832) := hide (by have := HMl.out; omega)
              have HNb : Hid (N + 1 ≤ (w1.alloc (.cells (kA y.1) KT)).heap.size) := hide (by have := HS1a.out.lt; omega)
              go_upto_region 19 with (first | ((with_reducible refine wpList_ldK ?_ (.tmp 70) ?_ ab 0 ?_ y.1 HKY.out ?_); rfl; rfl; rfl) | ((with_reducible refine wpList_bsK ?_ (.tmp 71) y.1 ?_ ?_ ?_); rfl; rfl; rfl) | ((with_reducible refine wpList_appK ?_ (.tmp 69) (.tmp 72) ?_ (N + 1) (.slice at2 m ct) told ?_ HS1a.out.td w1.heap.size ?_ y.1 (KB.made w1 y.1) HML.out HNb.out ?_); rfl; rfl; rfl; rfl; intro tv3 w3 h1 h2 h3))
              have HS3 := hide (HS1a.out.pushT h1.out h2.out h3.out)
              have HAB3 := hide (blk_push HS1a.out.td h2.out (Blk.alloc HAB1.out _) (by decide))
              have HSM := hide (SwP.enter HSP.out)
              obtain ⟨at3, ct3, rfl, _⟩ := h1.out.form
              have hl3 : (told ++ [y.1]).length = m + 1 := by rw [List.length_append, List.length_singleton, ← HMl.out]
              rw [hl3] at HS3 ⊢
              have cX : w3.cell? ⟨N, 1, none⟩ = some (.slice a2 n2 c2) := by rw [HS3.out.sx.cell]; rfl
              have lX := HS3.out.lt
              have HL3 := hide hl3
              have HB1 : Hid (m + 1 ≤ eN) := hide (by have := HSM.out.bound; have := HEN.out; omega)
              clear h1 h2 h3 hl3 HKY HS1a HML HNb HS1 HAB1
              by_cases hst : m < n2
              · have hsti : (m : Int) < (n2 : Int) := by omega
                go_upto_region 21 with fail
                obtain ⟨K, hK⟩ : ∃ K, CH[m]? = some K := ⟨_, List.getElem?_eq_getElem (by rw [← HN2.out]; exact hst)⟩
                obtain ⟨h7, so7, v7, rfl, hc7, ks7⟩ := HCR2.out w0 (Below.refl _ _) m K hK
                obtain ⟨kn, hkn⟩ : ∃ n, n = K.length := ⟨_, rfl⟩
                obtain ⟨ao7, c7, rfl⟩ : ∃ ao c, v7 = .slice ao K.length c := by
                  obtain ⟨ao, c, e, _⟩ := ks7
                  exact ⟨ao, c, e⟩
                have HC7 := hide (changes_at HN.out hc7 ks7)
                rw [← hkn] at HC7
                have HKn := hide hkn
                have HT7 := hide (flat_next CH m K hK)
                have HKE := hide hK
                obtain ⟨p0, hp0⟩ : ∃ n, n = (CH.take m).flatten.length := ⟨_, rfl⟩
                have HP0 := hide hp0
                rw [← hp0] at HS3 HGL HT7
                rw [← hkn] at HT7
                have HPB : Hid (F.length + p0 + kn ≤ 1048576) := hide (by have h1 := flat_take CH (m + 1); have h2 := HT7.out; have h3 := HM.out; omega)
                have hknb : kn ≤ 1048576 := by have := HPB.out; omega
                clear hc7 ks7 hkn hK hp0 cX lX
                go_loopw [6, 11] (fun t6 t11 w' => ∃ (j : Nat) (gone' : List KY) (L' : List Tab) (f' : KY → Option EN), t11 = .int .i64 j ∧ j ≤ kn ∧ SwS w0 w' N (.slice a1 n1 c1) (.slice (some ⟨h7, so7, none⟩) n2 c2) x L' f' (F.length + p0 + j) (.slice at3 (m + 1) ct3) (told ++ [y.1]) t6 gone' ∧ Blk w' ab (kdA (Option.getD (some y) kdZ)) KDT ∧ SwM (F ++ CH.flatten) (fun x => (f x).isSome) f' (told ++ [y.1]) gone' y.1 ∧ gone'.length ≤ p0 + j) (fun _ t11 _ => kn - (intOf t11).toNat)
                case atStart => exact ⟨0, gone, L3, g, rfl, by omega, HS3.out, HAB3.out, HSM.out, HGL.out⟩
                case round =>
                  obtain ⟨j, gone2, L4, g4, rfl, hj, hS, hA, hM4, hgl⟩ := hrel
                  have HS4 := hide hS
                  have HAB4 := hide hA
                  have HSM4 := hide hM4
                  have HGL4 := hide hgl
                  obtain ⟨cY, hk7⟩ := HC7.out wr hS.bel
                  have cX : wr.cell? ⟨N, 1, none⟩ = some (.slice (some ⟨h7, so7, none⟩) n2 c2) := by rw [hS.sx.cell]; rfl
                  have lX := hS.lt
                  clear hS hA hM4 hgl HS3 HAB3 HSM HGL
                  by_cases hlt : j < kn
                  · have hji : (j : Int) < (kn : Int) := by omega
                    obtain ⟨k, hk⟩ : ∃ k, K[j]? = some k := ⟨_, List.getElem?_eq_getElem (by rw [← HKn.out]; exact hlt)⟩
                    obtain ⟨hk1, sok, rfl, hrg⟩ := hk7 j k hk
                    have HRG := hide hrg
                    have HKI : Hid (k ∈ F ++ CH.flatten) := hide (List.mem_append.2 (.inr (List.mem_flatten.2 ⟨K, List.mem_of_getElem? HKE.out, List.mem_of_getElem? hk⟩)))
                    have hzk := zero_K
                    clear hk hrg hk7
                    go_upto_region 24 with (first | ((with_reducible refine wpList_ldK ?_ (.tmp 95) ?_ hk1 (sok + j * 32) ?_ k HRG.out ?_); rfl; rfl; rfl) | ((with_reducible refine wpList_stKB ?_ (.tmp 12) (.tmp 96) ?_ wr.heap.size ?_ kZ k ?_ (KB.made wr kZ) ?_); rfl; rfl; rfl; rfl; intro w4 h4 hg4))
                    have hb4 := below_grownBy (grownBy_trans (World.grownBy_alloc wr _ _) hg4.out) (Nat.le_refl _) (Nat.le_refl _)
                    have HS5 := hide (HS4.out.below hb4)
                    have HAB5 := hide (Blk.below HAB4.out hb4 (Blk.lt HAB4.out))
                    obtain ⟨zb, hzb⟩ : ∃ z, z = wr.heap.size := ⟨_, rfl⟩
                    rw [← hzb] at h4 ⊢
                    have HKB := hide h4.out
                    have HKY : Hid (w4.rangeAt zb 0 (kC k)) := hide (KB.rng HKB.out)
                    have HDel := hide (del_ix HS5.out.ix k)
                    unfold optV at HDel
                    clear h4 hg4 hb4 hzb HS4 HAB4 HRG cX cY lX hzk
                    have hze := zero_E
                    go_upto_region 25 with (first | ((with_reducible refine wpList_ldK ?_ (.tmp 12) ?_ zb 0 ?_ k HKY.out ?_); rfl; rfl; rfl) | (go_at_call 16; (with_reducible refine HDel.out.mono ?_); rintro e w5 ⟨rfl, hn⟩; obtain ⟨L5, h5⟩ := HS5.out.turn hn; have HS6 := hide h5; have HAB6 := hide (blk_turn HS5.out.ix hn HAB5.out (by decide) (by decide) (by decide)); have HKB6 : Hid (KB w5 zb k) := hide (blk_turn HS5.out.ix hn HKB.out (by decide) (by decide) (by decide)); clear hn h5) | ((with_reducible refine wpList_stEB ?_ (.tmp 13) (.tmp 101) ?_ w5.heap.size ?_ eZ ((g4 k).getD eZ) ?_ (EB.made w5 eZ) ?_); rfl; rfl; rfl; rfl; intro w6 h6 hg6))
                    have hb6 := below_grownBy (grownBy_trans (World.grownBy_alloc w5 _ _) hg6.out) (Nat.le_refl _) (Nat.le_refl _)
                    have HS7 := hide (HS6.out.below hb6)
                    have HAB7 := hide (Blk.below HAB6.out hb6 (Blk.lt HAB6.out))
                    have HKB7 : Hid (KB w6 zb k) := hide (Blk.below HKB6.out hb6 (Blk.lt HKB6.out))
                    have HKY7 : Hid (w6.rangeAt zb 0 (kC k)) := hide (KB.rng HKB7.out)
                    clear h6 hg6 hb6 HS5 HAB5 HKB HKY HDel HS6 HAB6 HKB6 hze
                    by_cases hq : (g4 k).isSome = true
                    · rw [hq]
                      clear hq
                      have HS7a := hide (HS7.out.below (below_alloc w6 (.cells (kA k) KT)))
                      have HML : Hid (gone2.length + 1 ≤ 3518437208832) := hide (by have := HPB.out; have := HGL4.out; omega)
                      have HNb : Hid (N + 1 ≤ (w6.alloc (.cells (kA k) KT)).heap.size) := hide (by have := HS7a.out.lt; omega)
                      go_upto_region 22 with (first | ((with_reducible refine wpList_ldK ?_ (.tmp 12) ?_ zb 0 ?_ k HKY7.out ?_); rfl; rfl; rfl) | ((with_reducible refine wpList_bsK ?_ (.tmp 105) k ?_ ?_ ?_); rfl; rfl; rfl) | ((with_reducible refine wpList_appK ?_ (.tmp 104) (.tmp 106) ?_ (N + 1) u6 gone2 ?_ HS7a.out.gn w6.heap.size ?_ k (KB.made w6 k) HML.out HNb.out ?_); rfl; rfl; rfl; rfl; intro gv3 w7 h1 h2 h3))
                      have HS8 := hide ((HS7a.out.pushG h1.out h2.out h3.out).more (show F.length + p0 + j ≤ F.length + p0 + (j + 1) by omega))
                      have HAB8 := hide (blk_push HS7a.out.gn h2.out (Blk.alloc HAB7.out _) (by decide))
                      clear h1 h2 h3 HS7 HS7a HAB7 HKB7 HKY7 HML HNb
                      go_wp2
                      go_roundw
                      case rel => exact ⟨j + 1, gone2 ++ [k], L5, _, by go_num, by omega, HS8.out, HAB8.out, HSM4.out.del, by have := HGL4.out; rw [List.length_append, List.length_singleton]; omega⟩
                      case measure => simp [intOf]; omega
                    · have hq0 : (g4 k).isSome = false := (Bool.not_eq_true _).mp hq
                      have HPut := hide (put_gone HS7.out.ix (by have := HPB.out; omega) k rfl eZ)
                      rw [hq0]
                      clear hq hq0
                      go_upto_region 22 with (first | ((with_reducible refine wpList_ldK ?_ (.tmp 12) ?_ zb 0 ?_ k HKY7.out ?_); rfl; rfl; rfl) | (refine wpList_val (eV eZ) (by rfl) (run_bdE0 (by rfl) _) ?_) | (go_at_call 13; (with_reducible refine HPut.out.mono ?_); rintro e w7 ⟨rfl, hn⟩; obtain ⟨L6, h6⟩ := HS7.out.turn hn; have HS8 := hide h6; have HAB8 := hide (blk_turn HS7.out.ix hn HAB7.out (by decide) (by decide) (by decide)); clear hn h6))
                      clear HS7 HAB7 HKB7 HKY7 HPut
                      go_wp2
                      go_roundw
                      case rel => exact ⟨j + 1, gone2, L6, _, by go_num, by omega, HS8.out, HAB8.out, HSM4.out.put HKI.out eZ, by have := HGL4.out; omega⟩
                      case measure => simp [intOf]; omega
                  · have hji : ¬ (j : Int) < (kn : Int) := by omega
                    obtain rfl : kn = j := by omega
                    clear cX lX cY hk7
                    have cX : wr.cell? ⟨N, 1, none⟩ = some (.slice (some ⟨h7, so7, none⟩) n2 c2) := by rw [HS4.out.sx.cell]; rfl
                    have cY := (HC7.out wr HS4.out.bel).1
                    have lX := HS4.out.lt
                    have HNx := hide (next_above wr HS4.out.ix y.1)
                    have HKY : Hid (wr.rangeAt ab 0 (kC y.1)) := hide (KD.key HAB4.out)
                    have HABN : Hid (N ≤ ab) := hide HAb.out
                    go_wp2_with (first | ((with_reducible refine wpList_ldK ?_ (.tmp 115) ?_ ab 0 ?_ y.1 HKY.out ?_); rfl; rfl; rfl) | (go_at_call 14; (with_reducible refine HNx.out.mono ?_); rintro e w4 ⟨⟨fo4, rfl, hl⟩, hb⟩; have HL := hide hl; have HS5 := hide (HS4.out.below hb); have HAB5 := hide (Blk.below HAB4.out hb (Blk.lt HAB4.out)); clear hb hl) | ((with_reducible refine wpList_stKD ?_ (.tmp 8) (.tmp 118) ?_ ab ?_ (Option.getD (some y) kdZ) (fo4.getD kdZ) ?_ HAB5.out ?_); rfl; rfl; rfl; rfl; intro w5 h5 hg5))
                    go_roundw
                    case rel =>
                      have e1 : (CH.take (told ++ [y.1]).length).flatten.length = p0 + kn := by rw [HL3.out]; exact HT7.out
                      refine ⟨told ++ [y.1], gone2, fo4, rfl, by rw [HL3.out]; go_num, L4, g4, ?_, h5.out, HSM4.out.leave HL.out, ?_, ?_, fun z hz => (lst_fst HL.out z.1 (by rw [hz]; rfl)).1⟩
                      · rw [e1, ← Nat.add_assoc]
                        exact HS5.out.box HAB5.out hg5.out HABN.out
                      · rw [e1]
                        exact HGL4.out
                      · intro hc
                        have := HKE.out
                        rw [hc] at this
                        cases this
                    case measure =>
                      have := HB1.out
                      have := HMl.out
                      simp [lenOf]
                      omega
              · have hsti : ¬ (m : Int) < (n2 : Int) := by omega
                have HNx := hide (next_above w3 HS3.out.ix y.1)
                have HKY : Hid (w3.rangeAt ab 0 (kC y.1)) := hide (KD.key HAB3.out)
                have HABN : Hid (N ≤ ab) := hide HAb.out
                go_wp2_with (first | ((with_reducible refine wpList_ldK ?_ (.tmp 115) ?_ ab 0 ?_ y.1 HKY.out ?_); rfl; rfl; rfl) | (go_at_call 14; (with_reducible refine HNx.out.mono ?_); rintro e w4 ⟨⟨fo4, rfl, hl⟩, hb⟩; have HL := hide hl; have HS4 := hide (HS3.out.below hb); have HAB4 := hide (Blk.below HAB3.out hb (Blk.lt HAB3.out)); clear hb hl) | ((with_reducible refine wpList_stKD ?_ (.tmp 8) (.tmp 118) ?_ ab ?_ (Option.getD (some y) kdZ) (fo4.getD kdZ) ?_ HAB4.out ?_); rfl; rfl; rfl; rfl; intro w5 h5 hg5))
                go_roundw
                case rel =>
                  refine ⟨told ++ [y.1], gone, fo4, rfl, by rw [HL3.out]; go_num, L3, g, ?_, h5.out, HSM.out.leave HL.out, ?_, ?_, fun z hz => (lst_fst HL.out z.1 (by rw [hz]; rfl)).1⟩
                  · have e1 : (CH.take (told ++ [y.1]).length).flatten.length = (CH.take m).flatten.length := by
                      have := HN2.out
                      rw [HL3.out, List.take_of_length_le (by omega), List.take_of_length_le (by omega)]
                    rw [e1]
                    exact HS4.out.box HAB4.out hg5.out HABN.out
                  · have e1 : (CH.take (told ++ [y.1]).length).flatten.length = (CH.take m).flatten.length := by
                      have := HN2.out
                      rw [HL3.out, List.take_of_length_le (by omega), List.take_of_length_le (by omega)]
                    rw [e1]
                    exact HGL.out
                  · intro hc
                    obtain ⟨q1, q2, q3⟩ := HNC.out hc
                    refine ⟨q1, q2, fun z hz => ?_⟩
                    rcases List.mem_append.1 hz with q | q
                    · exact q3 z q
                    · rw [List.mem_singleton.1 q, ← q1]
                      exact HLC3.out y rfl
                case measure =>
                  have := HB1.out
                  have := HMl.out
                  simp [lenOf]
                  omega
      · have hzi : ¬ (0 : Int) < (n1 : Int) := by omega
        go_upto_region 11 with fail
        clear h0 hzi
        clear HLen HS
        have HG1 : Hid (∀ x ∈ F, (f x).isSome) := hide (fun q hq => by
          obtain ⟨j, hj, e⟩ := List.getElem_of_mem hq
          exact HP.out j q (by have := HN1.out; omega) (by rw [List.getElem?_eq_getElem hj, e]))
        have HNx := hide (next_all w2 HS2.out.ix kZ)
        have hzk := zero_KD
        go_upto_region 13 with (first | (refine wpList_val (kV kZ) (by rfl) (run_bdK0 (by rfl) _) ?_) | (go_at_call 14; (with_reducible refine HNx.out.mono ?_); rintro e w3 ⟨⟨fo, rfl, hl⟩, hb⟩; have HL := hide hl; have HS3 := hide (HS2.out.below hb); clear hb hl) | ((with_reducible refine wpList_stKD ?_ (.tmp 8) (.tmp 49) ?_ w3.heap.size ?_ kdZ (fo.getD kdZ) ?_ (Blk.made w3 _ _) ?_); rfl; rfl; rfl; rfl; intro w4 h4 hg4))
        have HS4 := hide (HS3.out.below (below_grownBy (grownBy_trans (World.grownBy_alloc w3 _ _) hg4.out) (Nat.le_refl _) (Nat.le_refl _)))
        have HAb0 : Hid (N ≤ w3.heap.size) := hide (by have := HS3.out.lt; omega)
        obtain ⟨ab, hab⟩ : ∃ ab, ab = w3.heap.size := ⟨_, rfl⟩
        rw [← hab] at h4 HAb0 ⊢
        have HAb := HAb0
        have HA4 := hide h4.out
        have HLC : Hid (∀ z, fo = some z → (f z.1).isSome) := hide (fun z hz => (lst_fst HL.out z.1 (by rw [hz]; rfl)).1)
        have HSP := hide (SwP.begin (E := F ++ CH.flatten) (fun k hk => List.mem_append.2 (.inl (HD.out k hk))) HL.out)
        clear h4 hg4 hab HNx HS2 HS3 HL hzk
        obtain ⟨eN, heN⟩ : ∃ n, n = (F ++ CH.flatten).length := ⟨_, rfl⟩
        have HEN := hide heN
        clear heN
        go_upto_region 14 with fail
        go_loopw [6, 7, 9, 10] (fun t6 t7 t9 t10 wr => ∃ (told gone : List KY) (fo : Option (KY × EN)), t9 = .bool fo.isSome ∧ t10 = .int .i64 (told.length : Int) ∧ SwH w0 wr N (.slice a1 n1 c1) (.slice a2 n2 c2) x ab F CH f t7 told t6 gone fo) (fun _ t7 _ _ _ => eN + 1 - lenOf t7)
        case atStart => exact ⟨[], [], fo, rfl, rfl, ⟨_, f, by have h := HS4.out; rw [show F.length + (CH.take ([] : List KY).length).flatten.length = n1 by simp [HN1.out]]; exact h, HA4.out, HSP.out, by simp, fun _ => ⟨rfl, rfl, fun y hy => (by cases hy)⟩, HLC.out⟩⟩
        case round =>
          clear HS4 HA4 HSP cX lX
          obtain ⟨told, gone, fo2, rfl, rfl, L3, g, hS, hA, hSP, hgl, hnc, hlc⟩ := hrel
          have HS := hide hS
          have HAB := hide hA
          have HSP := hide hSP
          have HGL := hide hgl
          have HNC := hide hnc
          have HLC3 := hide hlc
          obtain ⟨at2, ct, rfl, hat⟩ := hS.td.form
          have cX : wr.cell? ⟨N, 1, none⟩ = some (.slice a2 n2 c2) := by rw [hS.sx.cell]; rfl
          have lX := hS.lt
          clear hS hA hSP hgl hnc hlc
          cases fo2 with
          | none =>
            have HIn : Hid (∀ k ∈ F, (gone.any fun x => eqK x k) = true ∨ (told.any fun x => eqK x k) = true) := hide (fun k hk => by
              rcases HSP.out.todo k (HG1.out k hk) with g1 | g1 | ⟨c, e, _⟩
              · exact .inl (List.any_eq_true.2 ⟨k, g1, eqK_self k⟩)
              · exact .inr (List.any_eq_true.2 ⟨k, g1, eqK_self k⟩)
              · cases e)
            have HEnd : Hid (n2 = 0 → told.length = A.length) := hide (fun hz => by
              have hc : CH = [] := List.length_eq_zero_iff.1 (by rw [← HN2.out]; exact hz)
              obtain ⟨q1, q2, q3⟩ := HNC.out hc
              have l1 : told.length ≤ (A.map Prod.fst).length := List.Nodup.length_le_of_subset HSP.out.nd (fun z hz => by
                obtain ⟨v, hv⟩ := Option.isSome_iff_exists.1 (q3 z hz)
                exact List.mem_map.2 ⟨(z, v), (HA.out.mem z v).2 hv, rfl⟩)
              have l2 : (A.map Prod.fst).length ≤ told.length := List.Nodup.length_le_of_subset HA.out.nd (fun z hz => by
                obtain ⟨⟨z2, v⟩, h1, rfl⟩ := List.mem_map.1 hz
                have h2 := (HA.out.mem z2 v).1 h1
                rcases HSP.out.todo z2 (by show (f z2).isSome = true; rw [h2]; rfl) with g1 | g1 | ⟨c, e, _⟩
                · rw [q2] at g1; cases g1
                · exact g1
                · cases e)
              rw [List.length_map] at l1 l2
              omega)
            have HGb : Hid (gone.length ≤ 1048576) := hide (by have := flat_take CH told.length; have := HGL.out; have := HM.out; omega)
            have HTb : Hid (told.length ≤ 1048576) := hide (by have h1 := HSP.out.bound; rw [List.length_append] at h1; have := HM.out; omega)
            clear HSP HGL HNC HLC3 HAB hat
            go_upto_region 31 with fail
            try simp only [Option.isSome_none]
            go_loopw [15] (fun t w' => ∃ i : Nat, t = .int .i64 i ∧ i ≤ n1 ∧ Below wr.heap.size wr w') (fun t _ => n1 - (intOf t).toNat)
            case atStart => exact ⟨0, rfl, by omega, Below.refl _ _⟩
            case round =>
              rename_i wq
              obtain ⟨i, rfl, hi2, hbq⟩ := hrel
              have HSq := hide (HS.out.below hbq)
              have HBq := hide hbq
              clear cX lX hbq
              have cX : wr.cell? ⟨N, 0, none⟩ = some (.slice a1 n1 c1) := by rw [HSq.out.sx.cell]; rfl
              have cX1 : wr.cell? ⟨N, 1, none⟩ = some (.slice a2 n2 c2) := by rw [HSq.out.sx.cell]; rfl
              have lX := HSq.out.lt
              by_cases hlt3 : i < n1
              · have hji3 : (i : Int) < (n1 : Int) := by omega
                obtain ⟨k, hk⟩ : ∃ k, F[i]? = some k := ⟨_, List.getElem?_eq_getElem (by rw [← HN1.out]; exact hlt3)⟩
                obtain ⟨h, so, rfl, hrg⟩ := HFR2.out wr HSq.out.bel i k hk
                have HRG := hide hrg
                have HAg := hide (among_any wr k u6 gone HSq.out.gn.read (by have := HGb.out; omega))
                by_cases hg : (gone.any fun x => eqK x k) = true
                · rw [hg] at HAg
                  clear hg hk hrg cX1
                  go_wp2_with (first | ((with_reducible refine wpList_ldK ?_ (.tmp 130) ?_ h (so + i * 32) ?_ k HRG.out ?_); rfl; rfl; rfl) | (go_at_call 17; (with_reducible refine HAg.out.mono ?_); rintro e w6 ⟨rfl, hb6⟩; have HB6 := hide hb6; clear hb6))
                  go_roundw
                  case rel => exact ⟨i + 1, by go_num, by omega, HBq.out.trans (HB6.out.mono HBq.out.size)⟩
                  case measure => simp [intOf]; omega
                · have hg0 : (gone.any fun x => eqK x k) = false := (Bool.not_eq_true _).mp hg
                  rw [hg0] at HAg
                  have hT : (told.any fun x => eqK x k) = true := by
                    rcases HIn.out k (List.mem_of_getElem? hk) with e | e
                    · exact absurd e hg
                    · exact e
                  have HAt : Hid (∀ w6, Below wr.heap.size wr w6 → Calls Try.prog 17 #[kV k, .slice at2 told.length ct] w6 fun e w' => e = .returned (.bool true) ∧ Below w6.heap.size w6 w') := hide (fun w6 hb => by
                    have h1 := among_any w6 k (.slice at2 told.length ct) told ((HSq.out.below hb).td.read) (by have := HTb.out; omega)
                    rw [hT] at h1
                    exact h1)
                  clear hg hg0 hT hk hrg cX1
                  go_wp2_with (first | ((with_reducible refine wpList_ldK ?_ (.tmp 130) ?_ h (so + i * 32) ?_ k HRG.out ?_); rfl; rfl; rfl) | ((with_reducible refine wpList_valG (kV k) ?_ (run_loadO (x := .tmp 139) (p := .pointer (some ⟨h, so + i * 32, none⟩)) rfl ?_ (run_ldK HRG6.out)) ?_); rfl; rfl) | (go_at_call 17; first | ((with_reducible refine HAg.out.mono ?_); rintro e w6 ⟨rfl, hb6⟩; have HB6 := hide hb6; have cX6 : w6.cell? ⟨N, 0, none⟩ = some (.slice (some ⟨h, so, none⟩) n1 c1) := (by rw [(HSq.out.below hb6).sx.cell]; rfl); have lX6 := (HSq.out.below hb6).lt; have HRG6 : Hid (w6.rangeAt h (so + i * 32) (kC k)) := hide (fun q u hu => by have h4 := HRG.out q u hu; rw [← h4]; exact hb6.cell (World.block_lt_of_cell? wr _ h4)); clear hb6) | ((with_reducible refine (HAt.out w6 HB6.out).mono ?_); rintro e w7 ⟨rfl, hb7⟩; have HB7 := hide hb7; clear hb7)))
                  go_roundw
                  case rel => exact ⟨i + 1, by go_num, by omega, (HBq.out.trans (HB6.out.mono HBq.out.size)).trans (HB7.out.mono (Nat.le_trans HBq.out.size HB6.out.size))⟩
                  case measure => simp [intOf]; omega
              · obtain rfl : n1 = i := by omega
                have hji3 : ¬ ((n1 : Nat) : Int) < (n1 : Int) := by omega
                have HFin : Hid (Below w0.heap.size w0 wr) := hide (by rw [← HN.out]; exact HSq.out.bel)
                by_cases hz : 0 < n2
                · have hzi : (0 : Int) < (n2 : Int) := by omega
                  clear hz
                  go_wp2
                  go_ret
                  exact ⟨rfl, HFin.out⟩
                · have hlen := HEnd.out (by omega)
                  have hzi : ¬ (0 : Int) < (n2 : Int) := by omega
                  have HLen2 := hide hlen
                  clear hlen hz
                  go_wp2
                  go_ret
                  refine ⟨?_, HFin.out⟩
                  show Ending.returned (.bool ((told.length : Int) == (A.length : Int))) = _
                  rw [HLen2.out]
                  simp
          | some y =>
            have HTB := hide HSP.out.bound
            have HAT := hide hat
            obtain ⟨m, hm⟩ : ∃ m, m = told.length := ⟨_, rfl⟩
            have hmb : m ≤ 1048576 := by have := HTB.out; have := HM.out; rw [List.length_append] at *; omega
            clear hat
            go_upto_region 16 with fail
            rw [← hm] at HS HGL HAT HTB ⊢
            have HMl := hide hm
            clear hm
            by_cases hm0 : 0 < m
            · have hmi : (0 : Int) < (m : Int) := by omega
              obtain ⟨gt, rfl⟩ := HAT.out hm0
              obtain ⟨z, hz⟩ : ∃ z, told[m - 1]? = some z := ⟨_, List.getElem?_eq_getElem (by have := HMl.out; omega)⟩
              obtain ⟨ao9, c9, e9, hr9⟩ := HS.out.td.read
              have hr9 := hr9 (by have := HMl.out; omega)
              obtain ⟨h9, so9, e10, hr9⟩ := hr9
              have HRK : Hid (∀ w', Below wr.heap.size wr w' → w'.rangeAt ab 0 (kC y.1) ∧ w'.rangeAt gt ((m - 1) * 32) (kC z)) := hide (fun w' hb => by
                refine ⟨KD.key (Blk.below HAB.out hb (Blk.lt HAB.out)), ?_⟩
                have h1 := hr9 (m - 1) z hz
                rw [e10] at e9
                cases e9
                rw [Nat.zero_add] at h1
                intro q u hu
                have h4 := h1 q u hu
                rw [← h4]
                exact hb.cell (World.block_lt_of_cell? wr _ h4))
              have HBl := hide (lbelow_any wr.drew z y.1)
              rw [decide_eq_true (((HSP.out.rise y.1 rfl).2 z (List.mem_of_getElem? hz)))] at HBl
              have hm1 : 1 ≤ m := by omega
              clear hr9 e9 e10 hz
              refine wp_calm (sp_walk _ (fun _ _ _ _ _ h => h) wr gt m ct ab z y.1 hm1 (by omega) HRK.out HBl.out _ (Nat.lt_of_sub_pos (by exact Nat.succ_pos _)) rfl rfl ?_)
              intro w1 hB1
              simp only [Act.put, List.setIfInBounds_toArray, List.set_cons_zero, List.set_cons_succ, Exit.then]
              have HS1 := hide (HS.out.below hB1)
              have HAB1 := hide (Blk.below HAB.out hB1 (Blk.lt HAB.out))
              clear hB1 HRK HBl hm1 hmi HS HAB cX lX
              go_upto_region 18 with fail
              have HKY : Hid (w1.rangeAt ab 0 (kC y.1)) := hide (KD.key HAB1.out)
              have HS1a := hide (HS1.out.below (below_alloc w1 (.cells (kA y.1) KT)))
              have HML : Hid (told.length + 1 ≤ 3518437208832) := hide (by have := HMl.out; omega)
              have HNb : Hid (N + 1 ≤ (w1.alloc (.cells (kA y.1) KT)).heap.size) := hide (by have := HS1a.out.lt; omega)
              go_upto_region 19 with (first | ((with_reducible refine wpList_ldK ?_ (.tmp 70) ?_ ab 0 ?_ y.1 HKY.out ?_); rfl; rfl; rfl) | ((with_reducible refine wpList_bsK ?_ (.tmp 71) y.1 ?_ ?_ ?_); rfl; rfl; rfl) | ((with_reducible refine wpList_appK ?_ (.tmp 69) (.tmp 72) ?_ (N + 1) (.slice (some ⟨gt, 0, none⟩) m ct) told ?_ HS1a.out.td w1.heap.size ?_ y.1 (KB.made w1 y.1) HML.out HNb.out ?_); rfl; rfl; rfl; rfl; intro tv3 w3 h1 h2 h3))
              have HS3 := hide (HS1a.out.pushT h1.out h2.out h3.out)
              have HAB3 := hide (blk_push HS1a.out.td h2.out (Blk.alloc HAB1.out _) (by decide))
              have HSM := hide (SwP.enter HSP.out)
              obtain ⟨at3, ct3, rfl, _⟩ := h1.out.form
              have hl3 : (told ++ [y.1]).length = m + 1 := by rw [List.length_append, List.length_singleton, ← HMl.out]
              rw [hl3] at HS3 ⊢
              have cX : w3.cell? ⟨N, 1, none⟩ = some (.slice a2 n2 c2) := by rw [HS3.out.sx.cell]; rfl
              have lX := HS3.out.lt
              have HL3 := hide hl3
              have HB1 : Hid (m + 1 ≤ eN) := hide (by have := HSM.out.bound; have := HEN.out; omega)
              clear h1 h2 h3 hl3 HKY HS1a HML HNb HS1 HAB1
              by_cases hst : m < n2
              · have hsti : (m : Int) < (n2 : Int) := by omega
                go_upto_region 21 with fail
                obtain ⟨K, hK⟩ : ∃ K, CH[m]? = some K := ⟨_, List.getElem?_eq_getElem (by rw [← HN2.out]; exact hst)⟩
                obtain ⟨h7, so7, v7, rfl, hc7, ks7⟩ := HCR2.out w0 (Below.refl _ _) m K hK
                obtain ⟨kn, hkn⟩ : ∃ n, n = K.length := ⟨_, rfl⟩
                obtain ⟨ao7, c7, rfl⟩ : ∃ ao c, v7 = .slice ao K.length c := by
                  obtain ⟨ao, c, e, _⟩ := ks7
                  exact ⟨ao, c, e⟩
                have HC7 := hide (changes_at HN.out hc7 ks7)
                rw [← hkn] at HC7
                have HKn := hide hkn
                have HT7 := hide (flat_next CH m K hK)
                have HKE := hide hK
                obtain ⟨p0, hp0⟩ : ∃ n, n = (CH.take m).flatten.length := ⟨_, rfl⟩
                have HP0 := hide hp0
                rw [← hp0] at HS3 HGL HT7
                rw [← hkn] at HT7
                have HPB : Hid (F.length + p0 + kn ≤ 1048576) := hide (by have h1 := flat_take CH (m + 1); have h2 := HT7.out; have h3 := HM.out; omega)
                have hknb : kn ≤ 1048576 := by have := HPB.out; omega
                clear hc7 ks7 hkn hK hp0 cX lX
                go_loopw [6, 11] (fun t6 t11 w' => ∃ (j : Nat) (gone' : List KY) (L' : List Tab) (f' : KY → Option EN), t11 = .int .i64 j ∧ j ≤ kn ∧ SwS w0 w' N (.slice a1 n1 c1) (.slice (some ⟨h7, so7, none⟩) n2 c2) x L' f' (F.length + p0 + j) (.slice at3 (m + 1) ct3) (told ++ [y.1]) t6 gone' ∧ Blk w' ab (kdA (Option.getD (some y) kdZ)) KDT ∧ SwM (F ++ CH.flatten) (fun x => (f x).isSome) f' (told ++ [y.1]) gone' y.1 ∧ gone'.length ≤ p0 + j) (fun _ t11 _ => kn - (intOf t11).toNat)
                case atStart => exact ⟨0, gone, L3, g, rfl, by omega, HS3.out, HAB3.out, HSM.out, HGL.out⟩
                case round =>
                  obtain ⟨j, gone2, L4, g4, rfl, hj, hS, hA, hM4, hgl⟩ := hrel
                  have HS4 := hide hS
                  have HAB4 := hide hA
                  have HSM4 := hide hM4
                  have HGL4 := hide hgl
                  obtain ⟨cY, hk7⟩ := HC7.out wr hS.bel
                  have cX : wr.cell? ⟨N, 1, none⟩ = some (.slice (some ⟨h7, so7, none⟩) n2 c2) := by rw [hS.sx.cell]; rfl
                  have lX := hS.lt
                  clear hS hA hM4 hgl HS3 HAB3 HSM HGL
                  by_cases hlt : j < kn
                  · have hji : (j : Int) < (kn : Int) := by omega
                    obtain ⟨k, hk⟩ : ∃ k, K[j]? = some k := ⟨_, List.getElem?_eq_getElem (by rw [← HKn.out]; exact hlt)⟩
                    obtain ⟨hk1, sok, rfl, hrg⟩ := hk7 j k hk
                    have HRG := hide hrg
                    have HKI : Hid (k ∈ F ++ CH.flatten) := hide (List.mem_append.2 (.inr (List.mem_flatten.2 ⟨K, List.mem_of_getElem? HKE.out, List.mem_of_getElem? hk⟩)))
                    have hzk := zero_K
                    clear hk hrg hk7
                    go_upto_region 24 with (first | ((with_reducible refine wpList_ldK ?_ (.tmp 95) ?_ hk1 (sok + j * 32) ?_ k HRG.out ?_); rfl; rfl; rfl) | ((with_reducible refine wpList_stKB ?_ (.tmp 12) (.tmp 96) ?_ wr.heap.size ?_ kZ k ?_ (KB.made wr kZ) ?_); rfl; rfl; rfl; rfl; intro w4 h4 hg4))
                    have hb4 := below_grownBy (grownBy_trans (World.grownBy_alloc wr _ _) hg4.out) (Nat.le_refl _) (Nat.le_refl _)
                    have HS5 := hide (HS4.out.below hb4)
                    have HAB5 := hide (Blk.below HAB4.out hb4 (Blk.lt HAB4.out))
                    obtain ⟨zb, hzb⟩ : ∃ z, z = wr.heap.size := ⟨_, rfl⟩
                    rw [← hzb] at h4 ⊢
                    have HKB := hide h4.out
                    have HKY : Hid (w4.rangeAt zb 0 (kC k)) := hide (KB.rng HKB.out)
                    have HDel := hide (del_ix HS5.out.ix k)
                    unfold optV at HDel
                    clear h4 hg4 hb4 hzb HS4 HAB4 HRG cX cY lX hzk
                    have hze := zero_E
                    go_upto_region 25 with (first | ((with_reducible refine wpList_ldK ?_ (.tmp 12) ?_ zb 0 ?_ k HKY.out ?_); rfl; rfl; rfl) | (go_at_call 16; (with_reducible refine HDel.out.mono ?_); rintro e w5 ⟨rfl, hn⟩; obtain ⟨L5, h5⟩ := HS5.out.turn hn; have HS6 := hide h5; have HAB6 := hide (blk_turn HS5.out.ix hn HAB5.out (by decide) (by decide) (by decide)); have HKB6 : Hid (KB w5 zb k) := hide (blk_turn HS5.out.ix hn HKB.out (by decide) (by decide) (by decide)); clear hn h5) | ((with_reducible refine wpList_stEB ?_ (.tmp 13) (.tmp 101) ?_ w5.heap.size ?_ eZ ((g4 k).getD eZ) ?_ (EB.made w5 eZ) ?_); rfl; rfl; rfl; rfl; intro w6 h6 hg6))
                    have hb6 := below_grownBy (grownBy_trans (World.grownBy_alloc w5 _ _) hg6.out) (Nat.le_refl _) (Nat.le_refl _)
                    have HS7 := hide (HS6.out.below hb6)
                    have HAB7 := hide (Blk.below HAB6.out hb6 (Blk.lt HAB6.out))
                    have HKB7 : Hid (KB w6 zb k) := hide (Blk.below HKB6.out hb6 (Blk.lt HKB6.out))
                    have HKY7 : Hid (w6.rangeAt zb 0 (kC k)) := hide (KB.rng HKB7.out)
                    clear h6 hg6 hb6 HS5 HAB5 HKB HKY HDel HS6 HAB6 HKB6 hze
                    by_cases hq : (g4 k).isSome = true
                    · rw [hq]
                      clear hq
                      have HS7a := hide (HS7.out.below (below_alloc w6 (.cells (kA k) KT)))
                      have HML : Hid (gone2.length + 1 ≤ 3518437208832) := hide (by have := HPB.out; have := HGL4.out; omega)
                      have HNb : Hid (N + 1 ≤ (w6.alloc (.cells (kA k) KT)).heap.size) := hide (by have := HS7a.out.lt; omega)
                      go_upto_region 22 with (first | ((with_reducible refine wpList_ldK ?_ (.tmp 12) ?_ zb 0 ?_ k HKY7.out ?_); rfl; rfl; rfl) | ((with_reducible refine wpList_bsK ?_ (.tmp 105) k ?_ ?_ ?_); rfl; rfl; rfl) | ((with_reducible refine wpList_appK ?_ (.tmp 104) (.tmp 106) ?_ (N + 1) u6 gone2 ?_ HS7a.out.gn w6.heap.size ?_ k (KB.made w6 k) HML.out HNb.out ?_); rfl; rfl; rfl; rfl; intro gv3 w7 h1 h2 h3))
                      have HS8 := hide ((HS7a.out.pushG h1.out h2.out h3.out).more (show F.length + p0 + j ≤ F.length + p0 + (j + 1) by omega))
                      have HAB8 := hide (blk_push HS7a.out.gn h2.out (Blk.alloc HAB7.out _) (by decide))
                      clear h1 h2 h3 HS7 HS7a HAB7 HKB7 HKY7 HML HNb
                      go_wp2
                      go_roundw
                      case rel => exact ⟨j + 1, gone2 ++ [k], L5, _, by go_num, by omega, HS8.out, HAB8.out, HSM4.out.del, by have := HGL4.out; rw [List.length_append, List.length_singleton]; omega⟩
                      case measure => simp [intOf]; omega
                    · have hq0 : (g4 k).isSome = false := (Bool.not_eq_true _).mp hq
                      have HPut := hide (put_gone HS7.out.ix (by have := HPB.out; omega) k rfl eZ)
                      rw [hq0]
                      clear hq hq0
                      go_upto_region 22 with (first | ((with_reducible refine wpList_ldK ?_ (.tmp 12) ?_ zb 0 ?_ k HKY7.out ?_); rfl; rfl; rfl) | (refine wpList_val (eV eZ) (by rfl) (run_bdE0 (by rfl) _) ?_) | (go_at_call 13; (with_reducible refine HPut.out.mono ?_); rintro e w7 ⟨rfl, hn⟩; obtain ⟨L6, h6⟩ := HS7.out.turn hn; have HS8 := hide h6; have HAB8 := hide (blk_turn HS7.out.ix hn HAB7.out (by decide) (by decide) (by decide)); clear hn h6))
                      clear HS7 HAB7 HKB7 HKY7 HPut
                      go_wp2
                      go_roundw
                      case rel => exact ⟨j + 1, gone2, L6, _, by go_num, by omega, HS8.out, HAB8.out, HSM4.out.put HKI.out eZ, by have := HGL4.out; omega⟩
                      case measure => simp [intOf]; omega
                  · have hji : ¬ (j : Int) < (kn : Int) := by omega
                    obtain rfl : kn = j := by omega
                    clear cX lX cY hk7
                    have cX : wr.cell? ⟨N, 1, none⟩ = some (.slice (some ⟨h7, so7, none⟩) n2 c2) := by rw [HS4.out.sx.cell]; rfl
                    have cY := (HC7.out wr HS4.out.bel).1
                    have lX := HS4.out.lt
                    have HNx := hide (next_above wr HS4.out.ix y.1)
                    have HKY : Hid (wr.rangeAt ab 0 (kC y.1)) := hide (KD.key HAB4.out)
                    have HABN : Hid (N ≤ ab) := hide HAb.out
                    go_wp2_with (first | ((with_reducible refine wpList_ldK ?_ (.tmp 115) ?_ ab 0 ?_ y.1 HKY.out ?_); rfl; rfl; rfl) | (go_at_call 14; (with_reducible refine HNx.out.mono ?_); rintro e w4 ⟨⟨fo4, rfl, hl⟩, hb⟩; have HL := hide hl; have HS5 := hide (HS4.out.below hb); have HAB5 := hide (Blk.below HAB4.out hb (Blk.lt HAB4.out)); clear hb hl) | ((with_reducible refine wpList_stKD ?_ (.tmp 8) (.tmp 118) ?_ ab ?_ (Option.getD (some y) kdZ) (fo4.getD kdZ) ?_ HAB5.out ?_); rfl; rfl; rfl; rfl; intro w5 h5 hg5))
                    go_roundw
                    case rel =>
                      have e1 : (CH.take (told ++ [y.1]).length).flatten.length = p0 + kn := by rw [HL3.out]; exact HT7.out
                      refine ⟨told ++ [y.1], gone2, fo4, rfl, by rw [HL3.out]; go_num, L4, g4, ?_, h5.out, HSM4.out.leave HL.out, ?_, ?_, fun z hz => (lst_fst HL.out z.1 (by rw [hz]; rfl)).1⟩
                      · rw [e1, ← Nat.add_assoc]
                        exact HS5.out.box HAB5.out hg5.out HABN.out
                      · rw [e1]
                        exact HGL4.out
                      · intro hc
                        have := HKE.out
                        rw [hc] at this
                        cases this
                    case measure =>
                      have := HB1.out
                      have := HMl.out
                      simp [lenOf]
                      omega
              · have hsti : ¬ (m : Int) < (n2 : Int) := by omega
                have HNx := hide (next_above w3 HS3.out.ix y.1)
                have HKY : Hid (w3.rangeAt ab 0 (kC y.1)) := hide (KD.key HAB3.out)
                have HABN : Hid (N ≤ ab) := hide HAb.out
                go_wp2_with (first | ((with_reducible refine wpList_ldK ?_ (.tmp 115) ?_ ab 0 ?_ y.1 HKY.out ?_); rfl; rfl; rfl) | (go_at_call 14; (with_reducible refine HNx.out.mono ?_); rintro e w4 ⟨⟨fo4, rfl, hl⟩, hb⟩; have HL := hide hl; have HS4 := hide (HS3.out.below hb); have HAB4 := hide (Blk.below HAB3.out hb (Blk.lt HAB3.out)); clear hb hl) | ((with_reducible refine wpList_stKD ?_ (.tmp 8) (.tmp 118) ?_ ab ?_ (Option.getD (some y) kdZ) (fo4.getD kdZ) ?_ HAB4.out ?_); rfl; rfl; rfl; rfl; intro w5 h5 hg5))
                go_roundw
                case rel =>
                  refine ⟨told ++ [y.1], gone, fo4, rfl, by rw [HL3.out]; go_num, L3, g, ?_, h5.out, HSM.out.leave HL.out, ?_, ?_, fun z hz => (lst_fst HL.out z.1 (by rw [hz]; rfl)).1⟩
                  · have e1 : (CH.take (told ++ [y.1]).length).flatten.length = (CH.take m).flatten.length := by
                      have := HN2.out
                      rw [HL3.out, List.take_of_length_le (by omega), List.take_of_length_le (by omega)]
                    rw [e1]
                    exact HS4.out.box HAB4.out hg5.out HABN.out
                  · have e1 : (CH.take (told ++ [y.1]).length).flatten.length = (CH.take m).flatten.length := by
                      have := HN2.out
                      rw [HL3.out, List.take_of_length_le (by omega), List.take_of_length_le (by omega)]
                    rw [e1]
                    exact HGL.out
                  · intro hc
                    obtain ⟨q1, q2, q3⟩ := HNC.out hc
                    refine ⟨q1, q2, fun z hz => ?_⟩
                    rcases List.mem_append.1 hz with q | q
                    · exact q3 z q
                    · rw [List.mem_singleton.1 q, ← q1]
                      exact HLC3.out y rfl
                case measure =>
                  have := HB1.out
                  have := HMl.out
                  simp [lenOf]
                  omega
            · refine wp_calm (sz_walk _ (fun _ _ _ _ _ h => h) wr at2 m ct hm0 _ (Nat.lt_of_sub_pos (by exact Nat.succ_pos _)) rfl ?_)
              simp only [Act.put, List.setIfInBounds_toArray, List.set_cons_zero, List.set_cons_succ, Exit.then]
              have HS1 := hide (HS.out.below ((Below.refl _ wr).drew))
              have HAB1 := hide (Blk.below HAB.out ((Below.refl _ wr).drew) (Blk.lt HAB.out))
              obtain ⟨w1, hw1⟩ : ∃ w1, w1 = wr.drew := ⟨_, rfl⟩
              rw [← hw1] at HS1 HAB1 ⊢
              clear HS HAB cX lX hm0 hw1
              go_upto_region 18 with fail
              have HKY : Hid (w1.rangeAt ab 0 (kC y.1)) := hide (KD.key HAB1.out)
              have HS1a := hide (HS1.out.below (below_alloc w1 (.cells (kA y.1) KT)))
              have HML : Hid (told.length + 1 ≤ 3518437208832) := hide (by have := HMl.out; omega)
              have HNb : Hid (N + 1 ≤ (w1.alloc (.cells (kA y.1) KT)).heap.size) := hide (by have := HS1a.out.lt; omega)
              go_upto_region 19 with (first | ((with_reducible refine wpList_ldK ?_ (.tmp 70) ?_ ab 0 ?_ y.1 HKY.out ?_); rfl; rfl; rfl) | ((with_reducible refine wpList_bsK ?_ (.tmp 71) y.1 ?_ ?_ ?_); rfl; rfl; rfl) | ((with_reducible refine wpList_appK ?_ (.tmp 69) (.tmp 72) ?_ (N + 1) (.slice at2 m ct) told ?_ HS1a.out.td w1.heap.size ?_ y.1 (KB.made w1 y.1) HML.out HNb.out ?_); rfl; rfl; rfl; rfl; intro tv3 w3 h1 h2 h3))
              have HS3 := hide (HS1a.out.pushT h1.out h2.out h3.out)
              have HAB3 := hide (blk_push HS1a.out.td h2.out (Blk.alloc HAB1.out _) (by decide))
              have HSM := hide (SwP.enter HSP.out)
              obtain ⟨at3, ct3, rfl, _⟩ := h1.out.form
              have hl3 : (told ++ [y.1]).length = m + 1 := by rw [List.length_append, List.length_singleton, ← HMl.out]
              rw [hl3] at HS3 ⊢
              have cX : w3.cell? ⟨N, 1, none⟩ = some (.slice a2 n2 c2) := by rw [HS3.out.sx.cell]; rfl
              have lX := HS3.out.lt
              have HL3 := hide hl3
              have HB1 : Hid (m + 1 ≤ eN) := hide (by have := HSM.out.bound; have := HEN.out; omega)
              clear h1 h2 h3 hl3 HKY HS1a HML HNb HS1 HAB1
              by_cases hst : m < n2
              · have hsti : (m : Int) < (n2 : Int) := by omega
                go_upto_region 21 with fail
                obtain ⟨K, hK⟩ : ∃ K, CH[m]? = some K := ⟨_, List.getElem?_eq_getElem (by rw [← HN2.out]; exact hst)⟩
                obtain ⟨h7, so7, v7, rfl, hc7, ks7⟩ := HCR2.out w0 (Below.refl _ _) m K hK
                obtain ⟨kn, hkn⟩ : ∃ n, n = K.length := ⟨_, rfl⟩
                obtain ⟨ao7, c7, rfl⟩ : ∃ ao c, v7 = .slice ao K.length c := by
                  obtain ⟨ao, c, e, _⟩ := ks7
                  exact ⟨ao, c, e⟩
                have HC7 := hide (changes_at HN.out hc7 ks7)
                rw [← hkn] at HC7
                have HKn := hide hkn
                have HT7 := hide (flat_next CH m K hK)
                have HKE := hide hK
                obtain ⟨p0, hp0⟩ : ∃ n, n = (CH.take m).flatten.length := ⟨_, rfl⟩
                have HP0 := hide hp0
                rw [← hp0] at HS3 HGL HT7
                rw [← hkn] at HT7
                have HPB : Hid (F.length + p0 + kn ≤ 1048576) := hide (by have h1 := flat_take CH (m + 1); have h2 := HT7.out; have h3 := HM.out; omega)
                have hknb : kn ≤ 1048576 := by have := HPB.out; omega
                clear hc7 ks7 hkn hK hp0 cX lX
                go_loopw [6, 11] (fun t6 t11 w' => ∃ (j : Nat) (gone' : List KY) (L' : List Tab) (f' : KY → Option EN), t11 = .int .i64 j ∧ j ≤ kn ∧ SwS w0 w' N (.slice a1 n1 c1) (.slice (some ⟨h7, so7, none⟩) n2 c2) x L' f' (F.length + p0 + j) (.slice at3 (m + 1) ct3) (told ++ [y.1]) t6 gone' ∧ Blk w' ab (kdA (Option.getD (some y) kdZ)) KDT ∧ SwM (F ++ CH.flatten) (fun x => (f x).isSome) f' (told ++ [y.1]) gone' y.1 ∧ gone'.length ≤ p0 + j) (fun _ t11 _ => kn - (intOf t11).toNat)
                case atStart => exact ⟨0, gone, L3, g, rfl, by omega, HS3.out, HAB3.out, HSM.out, HGL.out⟩
                case round =>
                  obtain ⟨j, gone2, L4, g4, rfl, hj, hS, hA, hM4, hgl⟩ := hrel
                  have HS4 := hide hS
                  have HAB4 := hide hA
                  have HSM4 := hide hM4
                  have HGL4 := hide hgl
                  obtain ⟨cY, hk7⟩ := HC7.out wr hS.bel
                  have cX : wr.cell? ⟨N, 1, none⟩ = some (.slice (some ⟨h7, so7, none⟩) n2 c2) := by rw [hS.sx.cell]; rfl
                  have lX := hS.lt
                  clear hS hA hM4 hgl HS3 HAB3 HSM HGL
                  by_cases hlt : j < kn
                  · have hji : (j : Int) < (kn : Int) := by omega
                    obtain ⟨k, hk⟩ : ∃ k, K[j]? = some k := ⟨_, List.getElem?_eq_getElem (by rw [← HKn.out]; exact hlt)⟩
                    obtain ⟨hk1, sok, rfl, hrg⟩ := hk7 j k hk
                    have HRG := hide hrg
                    have HKI : Hid (k ∈ F ++ CH.flatten) := hide (List.mem_append.2 (.inr (List.mem_flatten.2 ⟨K, List.mem_of_getElem? HKE.out, List.mem_of_getElem? hk⟩)))
                    have hzk := zero_K
                    clear hk hrg hk7
                    go_upto_region 24 with (first | ((with_reducible refine wpList_ldK ?_ (.tmp 95) ?_ hk1 (sok + j * 32) ?_ k HRG.out ?_); rfl; rfl; rfl) | ((with_reducible refine wpList_stKB ?_ (.tmp 12) (.tmp 96) ?_ wr.heap.size ?_ kZ k ?_ (KB.made wr kZ) ?_); rfl; rfl; rfl; rfl; intro w4 h4 hg4))
                    have hb4 := below_grownBy (grownBy_trans (World.grownBy_alloc wr _ _) hg4.out) (Nat.le_refl _) (Nat.le_refl _)
                    have HS5 := hide (HS4.out.below hb4)
                    have HAB5 := hide (Blk.below HAB4.out hb4 (Blk.lt HAB4.out))
                    obtain ⟨zb, hzb⟩ : ∃ z, z = wr.heap.size := ⟨_, rfl⟩
                    rw [← hzb] at h4 ⊢
                    have HKB := hide h4.out
                    have HKY : Hid (w4.rangeAt zb 0 (kC k)) := hide (KB.rng HKB.out)
                    have HDel := hide (del_ix HS5.out.ix k)
                    unfold optV at HDel
                    clear h4 hg4 hb4 hzb HS4 HAB4 HRG cX cY lX hzk
                    have hze := zero_E
                    go_upto_region 25 with (first | ((with_reducible refine wpList_ldK ?_ (.tmp 12) ?_ zb 0 ?_ k HKY.out ?_); rfl; rfl; rfl) | (go_at_call 16; (with_reducible refine HDel.out.mono ?_); rintro e w5 ⟨rfl, hn⟩; obtain ⟨L5, h5⟩ := HS5.out.turn hn; have HS6 := hide h5; have HAB6 := hide (blk_turn HS5.out.ix hn HAB5.out (by decide) (by decide) (by decide)); have HKB6 : Hid (KB w5 zb k) := hide (blk_turn HS5.out.ix hn HKB.out (by decide) (by decide) (by decide)); clear hn h5) | ((with_reducible refine wpList_stEB ?_ (.tmp 13) (.tmp 101) ?_ w5.heap.size ?_ eZ ((g4 k).getD eZ) ?_ (EB.made w5 eZ) ?_); rfl; rfl; rfl; rfl; intro w6 h6 hg6))
                    have hb6 := below_grownBy (grownBy_trans (World.grownBy_alloc w5 _ _) hg6.out) (Nat.le_refl _) (Nat.le_refl _)
                    have HS7 := hide (HS6.out.below hb6)
                    have HAB7 := hide (Blk.below HAB6.out hb6 (Blk.lt HAB6.out))
                    have HKB7 : Hid (KB w6 zb k) := hide (Blk.below HKB6.out hb6 (Blk.lt HKB6.out))
                    have HKY7 : Hid (w6.rangeAt zb 0 (kC k)) := hide (KB.rng HKB7.out)
                    clear h6 hg6 hb6 HS5 HAB5 HKB HKY HDel HS6 HAB6 HKB6 hze
                    by_cases hq : (g4 k).isSome = true
                    · rw [hq]
                      clear hq
                      have HS7a := hide (HS7.out.below (below_alloc w6 (.cells (kA k) KT)))
                      have HML : Hid (gone2.length + 1 ≤ 3518437208832) := hide (by have := HPB.out; have := HGL4.out; omega)
                      have HNb : Hid (N + 1 ≤ (w6.alloc (.cells (kA k) KT)).heap.size) := hide (by have := HS7a.out.lt; omega)
                      go_upto_region 22 with (first | ((with_reducible refine wpList_ldK ?_ (.tmp 12) ?_ zb 0 ?_ k HKY7.out ?_); rfl; rfl; rfl) | ((with_reducible refine wpList_bsK ?_ (.tmp 105) k ?_ ?_ ?_); rfl; rfl; rfl) | ((with_reducible refine wpList_appK ?_ (.tmp 104) (.tmp 106) ?_ (N + 1) u6 gone2 ?_ HS7a.out.gn w6.heap.size ?_ k (KB.made w6 k) HML.out HNb.out ?_); rfl; rfl; rfl; rfl; intro gv3 w7 h1 h2 h3))
                      have HS8 := hide ((HS7a.out.pushG h1.out h2.out h3.out).more (show F.length + p0 + j ≤ F.length + p0 + (j + 1) by omega))
                      have HAB8 := hide (blk_push HS7a.out.gn h2.out (Blk.alloc HAB7.out _) (by decide))
                      clear h1 h2 h3 HS7 HS7a HAB7 HKB7 HKY7 HML HNb
                      go_wp2
                      go_roundw
                      case rel => exact ⟨j + 1, gone2 ++ [k], L5, _, by go_num, by omega, HS8.out, HAB8.out, HSM4.out.del, by have := HGL4.out; rw [List.length_append, List.length_singleton]; omega⟩
                      case measure => simp [intOf]; omega
                    · have hq0 : (g4 k).isSome = false := (Bool.not_eq_true _).mp hq
                      have HPut := hide (put_gone HS7.out.ix (by have := HPB.out; omega) k rfl eZ)
                      rw [hq0]
                      clear hq hq0
                      go_upto_region 22 with (first | ((with_reducible refine wpList_ldK ?_ (.tmp 12) ?_ zb 0 ?_ k HKY7.out ?_); rfl; rfl; rfl) | (refine wpList_val (eV eZ) (by rfl) (run_bdE0 (by rfl) _) ?_) | (go_at_call 13; (with_reducible refine HPut.out.mono ?_); rintro e w7 ⟨rfl, hn⟩; obtain ⟨L6, h6⟩ := HS7.out.turn hn; have HS8 := hide h6; have HAB8 := hide (blk_turn HS7.out.ix hn HAB7.out (by decide) (by decide) (by decide)); clear hn h6))
                      clear HS7 HAB7 HKB7 HKY7 HPut
                      go_wp2
                      go_roundw
                      case rel => exact ⟨j + 1, gone2, L6, _, by go_num, by omega, HS8.out, HAB8.out, HSM4.out.put HKI.out eZ, by have := HGL4.out; omega⟩
                      case measure => simp [intOf]; omega
                  · have hji : ¬ (j : Int) < (kn : Int) := by omega
                    obtain rfl : kn = j := by omega
                    clear cX lX cY hk7
                    have cX : wr.cell? ⟨N, 1, none⟩ = some (.slice (some ⟨h7, so7, none⟩) n2 c2) := by rw [HS4.out.sx.cell]; rfl
                    have cY := (HC7.out wr HS4.out.bel).1
                    have lX := HS4.out.lt
                    have HNx := hide (next_above wr HS4.out.ix y.1)
                    have HKY : Hid (wr.rangeAt ab 0 (kC y.1)) := hide (KD.key HAB4.out)
                    have HABN : Hid (N ≤ ab) := hide HAb.out
                    go_wp2_with (first | ((with_reducible refine wpList_ldK ?_ (.tmp 115) ?_ ab 0 ?_ y.1 HKY.out ?_); rfl; rfl; rfl) | (go_at_call 14; (with_reducible refine HNx.out.mono ?_); rintro e w4 ⟨⟨fo4, rfl, hl⟩, hb⟩; have HL := hide hl; have HS5 := hide (HS4.out.below hb); have HAB5 := hide (Blk.below HAB4.out hb (Blk.lt HAB4.out)); clear hb hl) | ((with_reducible refine wpList_stKD ?_ (.tmp 8) (.tmp 118) ?_ ab ?_ (Option.getD (some y) kdZ) (fo4.getD kdZ) ?_ HAB5.out ?_); rfl; rfl; rfl; rfl; intro w5 h5 hg5))
                    go_roundw
                    case rel =>
                      have e1 : (CH.take (told ++ [y.1]).length).flatten.length = p0 + kn := by rw [HL3.out]; exact HT7.out
                      refine ⟨told ++ [y.1], gone2, fo4, rfl, by rw [HL3.out]; go_num, L4, g4, ?_, h5.out, HSM4.out.leave HL.out, ?_, ?_, fun z hz => (lst_fst HL.out z.1 (by rw [hz]; rfl)).1⟩
                      · rw [e1, ← Nat.add_assoc]
                        exact HS5.out.box HAB5.out hg5.out HABN.out
                      · rw [e1]
                        exact HGL4.out
                      · intro hc
                        have := HKE.out
                        rw [hc] at this
                        cases this
                    case measure =>
                      have := HB1.out
                      have := HMl.out
                      simp [lenOf]
                      omega
              · have hsti : ¬ (m : Int) < (n2 : Int) := by omega
                have HNx := hide (next_above w3 HS3.out.ix y.1)
                have HKY : Hid (w3.rangeAt ab 0 (kC y.1)) := hide (KD.key HAB3.out)
                have HABN : Hid (N ≤ ab) := hide HAb.out
                go_wp2_with (first | ((with_reducible refine wpList_ldK ?_ (.tmp 115) ?_ ab 0 ?_ y.1 HKY.out ?_); rfl; rfl; rfl) | (go_at_call 14; (with_reducible refine HNx.out.mono ?_); rintro e w4 ⟨⟨fo4, rfl, hl⟩, hb⟩; have HL := hide hl; have HS4 := hide (HS3.out.below hb); have HAB4 := hide (Blk.below HAB3.out hb (Blk.lt HAB3.out)); clear hb hl) | ((with_reducible refine wpList_stKD ?_ (.tmp 8) (.tmp 118) ?_ ab ?_ (Option.getD (some y) kdZ) (fo4.getD kdZ) ?_ HAB4.out ?_); rfl; rfl; rfl; rfl; intro w5 h5 hg5))
                go_roundw
                case rel =>
                  refine ⟨told ++ [y.1], gone, fo4, rfl, by rw [HL3.out]; go_num, L3, g, ?_, h5.out, HSM.out.leave HL.out, ?_, ?_, fun z hz => (lst_fst HL.out z.1 (by rw [hz]; rfl)).1⟩
                  · have e1 : (CH.take (told ++ [y.1]).length).flatten.length = (CH.take m).flatten.length := by
                      have := HN2.out
                      rw [HL3.out, List.take_of_length_le (by omega), List.take_of_length_le (by omega)]
                    rw [e1]
                    exact HS4.out.box HAB4.out hg5.out HABN.out
                  · have e1 : (CH.take (told ++ [y.1]).length).flatten.length = (CH.take m).flatten.length := by
                      have := HN2.out
                      rw [HL3.out, List.take_of_length_le (by omega), List.take_of_length_le (by omega)]
                    rw [e1]
                    exact HGL.out
                  · intro hc
                    obtain ⟨q1, q2, q3⟩ := HNC.out hc
                    refine ⟨q1, q2, fun z hz => ?_⟩
                    rcases List.mem_append.1 hz with q | q
                    · exact q3 z q
                    · rw [List.mem_singleton.1 q, ← q1]
                      exact HLC3.out y rfl
                case measure =>
                  have := HB1.out
                  have := HMl.out
                  simp [lenOf]
                  omega
end TX
end Go.Proofs.Ytdigjpddmfolgaa
