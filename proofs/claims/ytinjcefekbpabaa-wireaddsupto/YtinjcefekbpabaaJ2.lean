/- Appending bytes to a row of the call's own; laid. -/
import Derived.Test.YtinjcefekbpabaaJ1
import Derived.Test.YtinjcefekbpabaaR6
import Derived.Deep.RegionHeld3
namespace Go.Proofs.Ytinjcefekbpabaa
set_option linter.unusedVariables false
set_option linter.unusedSimpArgs false
open Go.RowKit

theorem own_base {w : World} {base base' n : Nat} {v : Value} {xs : List Value} {e : TypeId} (h : w.ownsRow base e 1 v n xs) (hb : base' ≤ base) : w.ownsRow base' e 1 v n xs := by
  obtain ⟨h0, h1 | ⟨g, cap, cur, e1, hg, hr⟩⟩ := h
  · exact ⟨h0, .inl h1⟩
  · exact ⟨h0, .inr ⟨g, cap, cur, e1, Nat.le_trans hb hg, hr⟩⟩
theorem append_nil_nil (w : World) (ty : TypeId) : (Builtin.append_ #[28, 28] ty #[.slice none 0 0, .slice none 0 0]).run Try.prog w = .ok (.slice none 0 0) w := by
  have hu := Try.underlying28
  simp [Builtin.append_, go_sem, hu]
theorem append_own_nil (w : World) (ty : TypeId) (g n cap : Nat) (h : n ≤ cap) : (Builtin.append_ #[28, 28] ty #[.slice (some ⟨g, 0, none⟩) n cap, .slice none 0 0]).run Try.prog w = .ok (.slice (some ⟨g, 0, none⟩) n cap) w := by
  have hu := Try.underlying28
  have hs : (sizeOf 5).run Try.prog w = .ok 1 w := by kernel_rfl
  simp [Builtin.append_, go_sem, hu, hs, h]
/-- A row of the call's own that holds these bytes. -/
def OwnsB (w : World) (base : Nat) (v : Value) (xs : List UInt8) : Prop := w.ownsRow base 5 1 v xs.length (xs.map u8c)
theorem wpList_append_rdA {ops : Array Oper} {rest : List Oper} {o : Oper} {a : Act} {w : World} {Q : Exit → Act → World → Prop} (hgd : o.guard = none) (s x : Operand) (ho : o.op = .call { callee := .builtin .append, args := #[s, x], argTypes := #[28, 28] })
    (base : Nat) (v u : Value) (xs ys : List UInt8) (hs : a.eval s = v) (hown : w.ownsRow base 5 1 v xs.length (xs.map u8c)) (hx : a.eval x = u) (hrd : RdA w u ys) (hlen : xs.length + ys.length ≤ 140737488355000) (hbase : base ≤ w.heap.size)
    (h : ∀ v' w', Hid (OwnsB w' base v' (xs ++ ys)) → Hid (w.grownBy w' v.ownBlock) → wpList Try.prog ops Q rest (a.put o.dst v') w') : wpList Try.prog ops Q (o :: rest) a w := by
  obtain ⟨i0, hi, hz0, hz1, hz2⟩ := info_parts infoU8
  have go : ∀ (ad : Addr) (m c : Nat), u = .slice (some ad) m c → m = ys.length → (∀ j q, (ys.map u8c)[j]? = some q → w.cell? (ad.add j) = some q) → wpList Try.prog ops Q (o :: rest) a w := by
    intro ad m c e hm hn
    subst e
    subst hm
    refine wpList_append_own w hgd s x 28 ho base 5 i0 (.int .u8 0) 1 1 Try.underlying28 hi hz0 hz1 hz2 rfl (by decide) v xs.length (xs.map u8c) hs hown ad ys.length c (ys.map u8c) hx (by simp) hn (u8c_one ys) (by unfold maxLen; omega) (by omega) hbase ?_
    intro v' w' h1 h2 _
    exact h v' w' (hide (by unfold OwnsB; rw [List.length_append, List.map_append]; exact h1)) (hide h2)
  rcases hrd with hrd | ⟨ad, rfl, rfl⟩
  · rcases hrd.form with ⟨rfl, rfl⟩ | ⟨b, o', c, e, hcell⟩
    · have hh := h v w (hide (by unfold OwnsB; simpa using hown)) (hide ⟨rfl, rfl, rfl, Nat.le_refl _, fun _ _ _ => rfl⟩)
      refine wpList_plain hgd fun K hK => ?_
      obtain ⟨_, ⟨rfl, _⟩ | ⟨g, cap, cur, rfl, _, _, hc, _⟩⟩ := hown
      · have hrun := append_nil_nil w o.type
        unfold Oper.wp
        simp [execOp, ho, resolve, invoke, builtin, hs, hx, hrun, Result.andThen]
        exact hK _ _ hh
      · have hrun := append_own_nil w o.type g xs.length cap hc
        unfold Oper.wp
        simp [execOp, ho, resolve, invoke, builtin, hs, hx, hrun, Result.andThen]
        exact hK _ _ hh
    · exact go ⟨b, o', none⟩ ys.length c e rfl (Rd_news hcell)
  · exact go ad 0 0 rfl rfl (fun j q hj => by simp at hj)

def LaidC (w : World) (xs : List UInt8) (e : Ending) (w' : World) : Prop := OwnC w xs e w'
theorem laid_end {w w1 : World} {o : Obj} {u : Value} {xs : List UInt8} (h : w1.ownsRow (w.alloc o).heap.size 5 1 u xs.length (xs.map u8c)) (hb : Below (w.alloc o).heap.size (w.alloc o) w1) : w1.ownsRow w.heap.size 5 1 u xs.length (xs.map u8c) ∧ Below w.heap.size w w1 :=
  ⟨own_base h (by simp), ((Below.refl _ _).alloc (Nat.le_refl _) _).trans (hb.mono (by simp))⟩

set_option maxRecDepth 20000 in
set_option maxHeartbeats 800000 in
theorem laid_1 (w : World) (cs : Array Value) (bv : Value) (a : AddR) (hk : a.kind = 1) (ha : AddIs w cs bv a) (hlen : a.S.length + a.B.length ≤ 140737488354000) :
    Calls Try.prog 12 #[.agg cs] w (LaidC w (varB a.N)) := by
  have hA := ha.below ((Below.refl _ _).alloc (Nat.le_refl _) (.cells cs 37))
  have HC := hide (rvarb (w.alloc (.cells cs 37)) a.N ha.hN)
  have g0 := ha.c0
  rw [hk] at g0
  have g1 := ha.c1
  have g2 := ha.c2
  have g3 := ha.c3
  have hN := ha.hN
  clear ha hA
  go_enter Try.func12, Try.ntmps12
  go_wp2_with fail
  refine (HC.out).mono ?_
  rintro e w1 ⟨u, rfl, hown, hb⟩
  have HO := hide hown
  have HB := hide hb
  clear hown hb
  go_wp2
  go_ret
  exact ⟨_, rfl, laid_end HO.out HB.out⟩

set_option maxRecDepth 20000 in
set_option maxHeartbeats 800000 in
theorem laid_2 (w : World) (cs : Array Value) (bv : Value) (a : AddR) (hk : a.kind = 2) (ha : AddIs w cs bv a) (hlen : a.S.length + a.B.length ≤ 140737488354000) :
    Calls Try.prog 12 #[.agg cs] w (LaidC w (varB a.S.length ++ a.S)) := by
  have hA := ha.below ((Below.refl _ _).alloc (Nat.le_refl _) (.cells cs 37))
  have HC := hide (rtextb (w.alloc (.cells cs 37)) a.S (by omega))
  have g0 := ha.c0
  rw [hk] at g0
  have g1 := ha.c1
  have g2 := ha.c2
  have g3 := ha.c3
  have hN := ha.hN
  clear ha hA
  go_enter Try.func12, Try.ntmps12
  go_wp2_with fail
  refine (HC.out).mono ?_
  rintro e w1 ⟨u, rfl, hown, hb⟩
  have HO := hide hown
  have HB := hide hb
  clear hown hb
  go_wp2
  go_ret
  exact ⟨_, rfl, laid_end HO.out HB.out⟩

set_option maxRecDepth 20000 in
set_option maxHeartbeats 800000 in
theorem laid_3 (w : World) (cs : Array Value) (bv : Value) (a : AddR) (hk : a.kind = 3) (ha : AddIs w cs bv a) (hlen : a.S.length + a.B.length ≤ 140737488354000) :
    Calls Try.prog 12 #[.agg cs] w (LaidC w a.B) := by
  have hA := ha.below ((Below.refl _ _).alloc (Nat.le_refl _) (.cells cs 37))
  have HRD := hide hA.rd
  have g0 := ha.c0
  rw [hk] at g0
  have g1 := ha.c1
  have g2 := ha.c2
  have g3 := ha.c3
  have hN := ha.hN
  obtain ⟨ao, cap, rfl, hl⟩ := ha.rd.slice
  clear ha hA
  go_enter Try.func12, Try.ntmps12
  go_wp2_with (at_builtin; refine wpList_append_rdA rfl _ _ rfl (w.heap.size + 1) (.slice none 0 0) _ [] a.B rfl (World.ownsRow_nil _ _ _ _) rfl HRD.out (by simp; omega) (by rw [World.size_alloc]; omega) ?_)
  intro v' w1 HO HG
  have HB : Hid (Below w.heap.size w w1) := hide (((Below.refl _ _).alloc (Nat.le_refl _) _).trans ⟨HG.out.os, HG.out.tape, HG.out.output, HG.out.size, fun k hk => HG.out.block k (by rw [World.size_alloc]; omega) (by simp [Value.ownBlock])⟩)
  go_wp2
  go_ret
  exact ⟨v', rfl, own_base (base' := w.heap.size) HO.out (by omega), HB.out⟩

set_option maxRecDepth 20000 in
set_option maxHeartbeats 800000 in
theorem laid_4 (w : World) (cs : Array Value) (bv : Value) (a : AddR) (hk : a.kind = 4) (ha : AddIs w cs bv a) (hlen : a.S.length + a.B.length ≤ 140737488354000) :
    Calls Try.prog 12 #[.agg cs] w (LaidC w a.K) := by
  have hA := ha.below ((Below.refl _ _).alloc (Nat.le_refl _) (.cells cs 37))
  have HRD : Hid (Rd (w.alloc (.cells cs 37)) (.slice (some ⟨w.heap.size, 4, none⟩) 32 32) a.K) := hide (by
    have hkl := ha.kl
    refine ⟨some ⟨w.heap.size, 4, none⟩, 32, by rw [hkl], Nat.le_of_eq hkl, by decide, .inr ⟨w.heap.size, 4, rfl, fun i hi => ?_⟩⟩
    exact ha.key w i (u8c a.K[i]) (by simp [List.getElem?_eq_getElem hi]))
  have hkl32 := ha.kl
  have g0 := ha.c0
  rw [hk] at g0
  have g1 := ha.c1
  have g2 := ha.c2
  have g3 := ha.c3
  have hN := ha.hN
  clear ha hA
  go_enter Try.func12, Try.ntmps12
  go_wp2_with (at_builtin; refine wpList_append_rdA rfl _ _ rfl (w.heap.size + 1) (.slice none 0 0) _ [] a.K rfl (World.ownsRow_nil _ _ _ _) rfl (.inl HRD.out) (by simp; omega) (by rw [World.size_alloc]; omega) ?_)
  intro v' w1 HO HG
  have HB : Hid (Below w.heap.size w w1) := hide (((Below.refl _ _).alloc (Nat.le_refl _) _).trans ⟨HG.out.os, HG.out.tape, HG.out.output, HG.out.size, fun k hk => HG.out.block k (by rw [World.size_alloc]; omega) (by simp [Value.ownBlock])⟩)
  go_wp2
  go_ret
  exact ⟨v', rfl, own_base (base' := w.heap.size) HO.out (by omega), HB.out⟩

set_option maxRecDepth 20000 in
set_option maxHeartbeats 800000 in
theorem laid_13 (w : World) (cs : Array Value) (bv : Value) (a : AddR) (hk : a.kind = 13) (ha : AddIs w cs bv a) (hlen : a.S.length + a.B.length ≤ 140737488354000) :
    Calls Try.prog 12 #[.agg cs] w (LaidC w (varB a.B.length ++ a.B)) := by
  have hA := ha.below ((Below.refl _ _).alloc (Nat.le_refl _) (.cells cs 37))
  have HC := hide (rvarb (w.alloc (.cells cs 37)) a.B.length (by omega))
  have HRD := hide hA.rd
  have HVL := hide (varB_len a.B.length)
  have g0 := ha.c0
  rw [hk] at g0
  have g1 := ha.c1
  have g2 := ha.c2
  have g3 := ha.c3
  have hN := ha.hN
  obtain ⟨ao, cap, rfl, hl⟩ := ha.rd.slice
  clear ha hA
  go_enter Try.func12, Try.ntmps12
  go_wp2_with fail
  refine (HC.out).mono ?_
  rintro e w1 ⟨u, rfl, hown, hb⟩
  have HO := hide hown
  have HB := hide hb
  have HRD1 := hide (HRD.out.below hb)
  have hBk : Blk w1 w.heap.size cs 37 := (Blk.made w cs _).below hb (by rw [World.size_alloc]; omega)
  have c3 := hBk.cell 3
  rw [g3] at c3
  clear hown hb hBk HC
  go_wp2_with (at_builtin; refine wpList_append_rdA rfl _ _ rfl (w.alloc (.cells cs 37)).heap.size u _ (varB a.B.length) a.B rfl HO.out rfl HRD1.out (by have := HVL.out; omega) HB.out.size ?_)
  intro v' w2 HO2 HG
  have HB2 : Hid (Below (w.alloc (.cells cs 37)).heap.size (w.alloc (.cells cs 37)) w2) := hide (own_below HB.out HO.out HB.out.size HG.out)
  go_wp2
  go_ret
  refine ⟨v', rfl, laid_end (o := .cells cs 37) ?_ HB2.out⟩
  rw [World.size_alloc]
  have := HO2.out
  first | exact this | (rw [World.size_alloc] at this; exact this)

end Go.Proofs.Ytinjcefekbpabaa
