/- The document's All. -/
import Derived.Test.YtbnedlcldfpfdaaEX7
import Derived.Test.YtbnedlcldfpfdaaRW1
import Derived.Lib.OwnKind
namespace Go.Proofs.Ytbnedlcldfpfdaa
set_option linter.unusedVariables false
set_option linter.unusedSimpArgs false
open Go.RowKit Go.Sort

theorem infoRec : (Try.prog.info? 57).map (fun i => (i.zero, i.size, i.bytes)) = some (some (.agg #[.int .i64 0, .slice none 0 0]), 2, 32) := by kernel_rfl
/-- The cells of the first k records: where each begins, and its body. -/
def recC (bs : List UInt8) (vs : Nat → Value) : Nat → List Value
  | 0 => []
  | k + 1 => recC bs vs k ++ [.int .i64 ((plc bs k : Nat) : Int), vs k]
theorem recC_ext (bs : List UInt8) (vs us : Nat → Value) : ∀ k, (∀ j, j < k → vs j = us j) → recC bs vs k = recC bs us k
  | 0, _ => rfl
  | k + 1, h => by rw [recC, recC, recC_ext bs vs us k (fun j hj => h j (by omega)), h k (by omega)]
def OwnsRec (w : World) (base : Nat) (v : Value) (bs : List UInt8) (vs : Nat → Value) (k : Nat) : Prop := w.ownsRow base 57 2 v k (recC bs vs k)
theorem kind_ne {w : World} {B B' s s' : Nat} {e e' : TypeId} {v u : Value} {n m : Nat} {ys zs : List Value} (ho : w.ownsRow B e s v n ys) (hu : w.ownsRow B' e' s' u m zs) (hte : e ≠ e') : ∀ g, v.ownBlock = some g → u.ownBlock ≠ some g := by
  intro g h1 h2
  obtain ⟨c, fz, k1⟩ := Go.Lib.ownsRow_kind ho g h1
  obtain ⟨c', fz', k2⟩ := Go.Lib.ownsRow_kind hu g h2
  rw [k1] at k2
  cases k2
  exact hte rfl
theorem own_lower {w : World} {B B' : Nat} {v : Value} {xs : List UInt8} (h : OwnsB w B v xs) (hb : B' ≤ B) : OwnsB w B' v xs := by
  refine ⟨h.1, ?_⟩
  rcases h.2 with h1 | ⟨g, cap, cur, h1, h2, h3⟩
  · exact .inl h1
  · exact .inr ⟨g, cap, cur, h1, Nat.le_trans hb h2, h3⟩
/-- append of one record. -/
theorem wpList_append_rec {ops : Array Oper} {rest : List Oper} {o : Oper} {a : Act} {w : World} {Q : Exit → Act → World → Prop} (hgd : o.guard = none) (s x : Operand) (ho : o.op = .call { callee := .builtin .append, args := #[s, x], argTypes := #[54, 54] })
    (base : Nat) (v : Value) (bs : List UInt8) (vs : Nat → Value) (k : Nat) (hs : a.eval s = v) (hown : OwnsRec w base v bs vs k) (z c : Nat) (hx : a.eval x = .slice (some ⟨z, 0, none⟩) 1 c) (u : Value) (hu : u.oneCell' = true) (hz : Blk w z #[.int .i64 ((plc bs k : Nat) : Int), u] 57) (hlen : k ≤ 4000000000000) (hbase : base ≤ w.heap.size)
    (h : ∀ v' w', Hid (OwnsRec w' base v' bs (fun j => if j = k then u else vs j) (k + 1)) → Hid (w.grownBy w' v.ownBlock) → wpList Try.prog ops Q rest (a.put o.dst v') w') : wpList Try.prog ops Q (o :: rest) a w := by
  obtain ⟨i0, hi, hz0, hz1, hz2⟩ := info_parts infoRec
  refine wpList_append_own_wide w hgd s x 54 ho base 57 i0 _ 2 32 Try.underlying54 hi hz0 hz1 hz2 rfl (by decide) v k (recC bs vs k) hs hown ⟨z, 0, none⟩ 1 c [.int .i64 ((plc bs k : Nat) : Int), u] hx rfl ?_ ?_ (by unfold maxLen; omega) (by omega) hbase ?_
  · intro j q hj
    rcases j with _ | _ | j
    · cases hj; exact hz.cell 0
    · cases hj; exact hz.cell 1
    · simp at hj
  · intro q hq
    simp only [List.mem_cons, List.not_mem_nil, or_false] at hq
    rcases hq with rfl | rfl
    · rfl
    · exact hu
  · intro v' w' h1 h2 _
    refine h v' w' (hide ?_) (hide h2)
    unfold OwnsRec
    rw [recC, if_pos rfl, recC_ext bs _ vs k (fun j hj => by rw [if_neg (by omega)])]
    exact h1
def RAllC (w : World) (bs : List UInt8) (e : Ending) (w' : World) : Prop := ∃ k v vs, (∀ j, j < k → okR bs j) ∧ ¬ okR bs k ∧ e = .returned v ∧ OwnsRec w' w.heap.size v bs vs k ∧ (∀ j, j < k → OwnsB w' w.heap.size (vs j) (bodyR bs j)) ∧ Below w.heap.size w w'
theorem OwnsRec.slice {w : World} {base : Nat} {v : Value} {bs : List UInt8} {vs : Nat → Value} {k : Nat} (h : OwnsRec w base v bs vs k) : ∃ ao c, v = .slice ao k c := by
  obtain ⟨_, ⟨rfl, e⟩ | ⟨g, cap, cur, rfl, _⟩⟩ := h
  · exact ⟨none, 0, by rw [e]⟩
  · exact ⟨_, cap, rfl⟩
theorem OwnsRec.below {w w' : World} {base : Nat} {v : Value} {bs : List UInt8} {vs : Nat → Value} {k : Nat} (h : OwnsRec w base v bs vs k) (hb : Below w.heap.size w w') : OwnsRec w' base v bs vs k :=
  World.ownsRow.kept (row := none) h ⟨hb.os, hb.tape, hb.output, hb.size, fun j hj _ => hb.block j hj⟩ (by cases hv : v.ownBlock <;> simp)
theorem plc_ten {bs : List UInt8} : ∀ k, (∀ j, j < k → okR bs j) → 10 * k ≤ plc bs k
  | 0, _ => Nat.zero_le _
  | k + 1, h => by
    have h1 := plc_ten k (fun j hj => h j (by omega))
    have h2 := (plc_step (h k (by omega))).1
    omega
set_option maxRecDepth 20000 in
set_option maxHeartbeats 1600000 in
theorem rall_any (w : World) (v : Value) (bs : List UInt8) (hv : RdA w v bs) (hl : bs.length ≤ 40000000000000) : Calls Try.prog 28 #[v] w (RAllC w bs) := by
  have HV := hide hv
  obtain ⟨ao, c, rfl, -⟩ := hv.slice
  clear hv
  go_enter Try.func28, Try.ntmps28
  go_wp2
  go_loopw [3, 4, 5, 6, 7] (fun out at_ _ _ _ wr => ∃ (vo : Value) (k : Nat) (vs : Nat → Value), vo = out ∧ at_ = .int .i64 ((plc bs k : Nat) : Int) ∧ (∀ j, j < k → okR bs j) ∧ OwnsRec wr w.heap.size vo bs vs k ∧ (∀ j, j < k → OwnsB wr w.heap.size (vs j) (bodyR bs j)) ∧ Below w.heap.size w wr) (fun _ at_ _ _ _ _ => bs.length - (intOf at_).toNat)
  case atStart => exact ⟨_, 0, fun _ => .slice none 0 0, rfl, rfl, by intro j h; omega, World.ownsRow_nil _ _ _ _, by intro j h; omega, Below.refl _ _⟩
  case round =>
    obtain ⟨vo, k, vs, rfl, rfl, hok, hrec, hbd, hbel⟩ := hrel
    have hple := plc_le k hok
    have hten := plc_ten k hok
    have HOK := hide hok
    have HBE := hide hbel
    have HRC := hide hrec
    have HBD := hide hbd
    have HU := hide (runpack_any wr _ bs (HV.out.below hbel) ((plc bs k : Nat) : Int) (by omega))
    rw [unpk_at hple] at HU
    have HST : Hid (okR bs k → plc bs (k + 1) = plc bs k + 10 + (bodyR bs k).length ∧ plc bs (k + 1) ≤ bs.length) := hide plc_step
    have HS1 : Hid (plc bs (k + 1) = plc bs k + (upk (bs.drop (plc bs k))).2.1) := hide rfl
    have HBR : Hid (bodyR bs k = (upk (bs.drop (plc bs k))).1) := hide rfl
    have HOR : Hid (okR bs k ↔ (upk (bs.drop (plc bs k))).2.2 = 0) := hide Iff.rfl
    obtain ⟨ao0, c0, rfl⟩ := hrec.slice
    obtain ⟨q, hq⟩ : ∃ q, q = plc bs k := ⟨_, rfl⟩
    have HQ := hide hq
    rw [← hq] at HU HST HS1 HOR HBR hple hten ⊢
    obtain ⟨r, hr⟩ : ∃ r, r = upk (bs.drop q) := ⟨_, rfl⟩
    rw [← hr] at HU HS1 HOR HBR
    obtain ⟨rb, rn, re⟩ := r
    dsimp only at HU HS1 HOR HBR
    clear hok hbel hq hr hrec hbd
    go_wp2_with fail
    refine HU.out.mono ?_
    rintro e w1 ⟨v1, rfl, hO1, hb1⟩
    dsimp only at hO1 ⊢
    have HO1 := hide hO1
    have HB1 := hide (Below.step HBE.out hb1)
    have HR1 := hide (HRC.out.below hb1)
    have HD1 : Hid (∀ j, j < k → OwnsB w1 w.heap.size (vs j) (bodyR bs j)) := hide (fun j hj => (HBD.out j hj).below hb1)
    have HSZ : Hid (w.heap.size ≤ wr.heap.size) := hide HBE.out.size
    obtain ⟨ao1, c1, rfl, -, -⟩ := hO1.slice
    clear hO1 hb1 HU HBE HRC HBD
    by_cases he : re = 0
    · have hst := HST.out (HOR.out.mpr he)
      rw [HS1.out] at hst
      have HN : Hid (okR bs k) := hide (HOR.out.mpr he)
      subst he
      have hqn : (q : Int) + (rn : Int) ≤ 140737488355000 := by omega
      have h0 : ((0 : Nat) : Int) = 0 := rfl
      rw [h0]
      go_wp2_with (at_builtin; refine wpList_append_rec rfl _ _ rfl w.heap.size _ bs vs k rfl ?c1 w1.heap.size 1 rfl (.slice ao1 rb.length c1) rfl ?c2 ?c3 ?c4 ?_)
      case c1 => exact HR1.out.below ((Below.refl _ _).alloc (Nat.le_refl _) _)
      case c2 => rw [← HQ.out]; exact Blk.made w1 _ _
      case c3 => omega
      case c4 => have := HB1.out.size; simp; omega
      intro v' w2 HO' HG
      have HK : Hid (Below w.heap.size w w2) := hide (own_below (HB1.out.alloc HB1.out.size _) (HR1.out.below ((Below.refl _ _).alloc (Nat.le_refl _) _)) (by have := HB1.out.size; simp; omega) HG.out)
      have HO2 : Hid (OwnsB w2 w.heap.size (.slice ao1 rb.length c1) rb) := hide (by
        have h := (OwnsB.below HO1.out ((Below.refl _ _).alloc (Nat.le_refl _) (.cells #[.int .i64 (q : Int), .slice ao1 rb.length c1] 57)))
        have h2 := OwnsB.grown h HG.out (fun g hg e => kind_ne h (HR1.out.below ((Below.refl _ _).alloc (Nat.le_refl _) _)) (by decide) g hg e.symm)
        exact own_lower h2 HSZ.out)
      have HD2 : Hid (∀ j, j < k → OwnsB w2 w.heap.size (vs j) (bodyR bs j)) := hide (fun j hj => by
        have h := (OwnsB.below (HD1.out j hj) ((Below.refl _ _).alloc (Nat.le_refl _) (.cells #[.int .i64 (q : Int), .slice ao1 rb.length c1] 57)))
        exact OwnsB.grown h HG.out (fun g hg e => kind_ne h (HR1.out.below ((Below.refl _ _).alloc (Nat.le_refl _) _)) (by decide) g hg e.symm))
      go_wp2
      refine ⟨⟨_, k + 1, fun j => if j = k then .slice ao1 rb.length c1 else vs j, rfl, by rw [HS1.out]; simp, fun j hj => ?_, HO'.out, fun j hj => ?_, HK.out⟩, by simp [intOf]; omega⟩
      · rcases Nat.lt_succ_iff_lt_or_eq.mp hj with h | h
        · exact HOK.out j h
        · rw [h]; exact HN.out
      · rcases Nat.lt_succ_iff_lt_or_eq.mp hj with h | h
        · dsimp only; rw [if_neg (by omega)]; exact HD2.out j h
        · dsimp only; rw [if_pos h, h, HBR.out]; exact HO2.out
    · have hei : ¬ (re : Int) = 0 := by omega
      have heb : ((re : Int) != 0) = true := by simpa using he
      have HN : Hid (¬ okR bs k) := hide (fun h => he (HOR.out.mp h))
      go_wp2
      go_ret
      exact ⟨k, _, vs, HOK.out, HN.out, rfl, HR1.out, HD1.out, HB1.out⟩
end Go.Proofs.Ytbnedlcldfpfdaa
