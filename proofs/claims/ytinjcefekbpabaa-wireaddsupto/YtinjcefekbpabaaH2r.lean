/- The statement that asks same: its region draws its order. -/
import Derived.Test.YtinjcefekbpabaaH2
namespace Go.Proofs.Ytinjcefekbpabaa
set_option linter.unusedVariables false
set_option linter.unusedSimpArgs false
open Go.RowKit

def s15_0 (s : String) : Oper := { dst := some 48, op := .move (.tmp 0), type := 22, pos := s, after := #[], guard := none }
def s15_1 (s : String) : Oper := { dst := some 49, op := .move (.tmp 7), type := 3, pos := s, after := #[], guard := none }
def s15_2 (s : String) : Oper := { dst := some 50, op := .indexAddr 22 (.tmp 48) (.tmp 49), type := 0, pos := s, after := #[{ on := 0, ground := .data }, { on := 1, ground := .data }], guard := none }
def s15_3 (s : String) : Oper := { dst := some 51, op := .load 37 (.tmp 50), type := 37, pos := s, after := #[{ on := 2, ground := .data }], guard := none }
def s15_4 (s : String) : Oper := { dst := some 52, op := .load 50 (.tmp 8), type := 50, pos := s, after := #[], guard := none }
def s15_5 (s : String) : Oper := { dst := some 53, op := .call { callee := .value (.func 21), args := #[.tmp 51, .tmp 52], argTypes := #[37, 50] }, type := 4, pos := s, after := #[{ on := 3, ground := .data }, { on := 4, ground := .data }], guard := none }
def s15_6 (s : String) : Oper := { dst := some 54, op := .unOp .not 4 (.tmp 53), type := 4, pos := s, after := #[{ on := 5, ground := .data }], guard := none }
def ops15 (s : String) : Array Oper := #[s15_0 s, s15_1 s, s15_2 s, s15_3 s, s15_4 s, s15_5 s, s15_6 s]

theorem put_comm (a : Act) (s t : Tmp) (u v : Value) (h : s ≠ t) : (a.put (some s) u).put (some t) v = (a.put (some t) v).put (some s) u := by
  unfold Act.put
  simp only
  congr 1
  exact Array.setIfInBounds_comm _ _ h
theorem enter_same (s : String) (a : Act) (w : World) : (execOp a.eval (s15_5 s)).run Try.prog w = .ok (.enter 21 #[a.eval (.tmp 51), a.eval (.tmp 52)]) w := by kernel_rfl
theorem step_enter {op : Oper} {a : Act} {w : World} {K : Act → World → Prop} {Q : Exit → Act → World → Prop} (f : FuncId) (args : Array Value) (hr : (execOp a.eval op).run Try.prog w = .ok (.enter f args) w) (V : Value) (R : World → Prop) (hc : Calls Try.prog f args w fun e w' => e = .returned V ∧ R w') (h : ∀ w', R w' → K (a.put op.dst V) w') : op.wp Try.prog a w K Q := by
  unfold Oper.wp
  rw [hr]
  refine Calls.mono hc ?_
  rintro e w' ⟨rfl, hR⟩
  exact h w' hR
theorem loadGot2 {w : World} {n : Nat} {x y : Value} (c0 : w.cell? ⟨n, 0, none⟩ = some x) (c1 : w.cell? ⟨n, 1, none⟩ = some y) : (Instr.loadAt 50 (.pointer (some ⟨n, 0, none⟩))).run Try.prog w = .ok (.agg #[x, y]) w := by
  simp only [Instr.loadAt, Instr.sureAddr, Sem.run_bind, Sem.run_pure, Result.andThen_ok]
  exact run_loadVar_mid (P := Try.prog) w n 0 50 [x, y] _ (fun j v hj => by
    match j, hj with
    | 0, hj => simp at hj; rw [← hj]; exact c0
    | 1, hj => simp at hj; rw [← hj]; exact c1) Try.underlying50 rfl infoGot
theorem index_add (s : String) (a : Act) (ab ao n ca j : Nat) (h : j < n) (e1 : a.eval (.tmp 48) = .slice (some ⟨ab, ao, none⟩) n ca) (e2 : a.eval (.tmp 49) = .int .i64 j) (w : World) : (execOp a.eval (s15_2 s)).run Try.prog w = .ok (.value (.pointer (some ⟨ab, ao + j * 36, none⟩))) w := by
  have hs : (sizeOf 37).run Try.prog w = .ok 36 w := by kernel_rfl
  have hu := Try.underlying22
  simp only [execOp, s15_2, e1, e2]
  simp [go_sem, hu, hs, h]

theorem region15 (s : String) {Q : Exit → Act → World → Prop} (hQ : ∀ c (a : Act) t v w, Q (.panic c) (a.put (some t) v) w → Q (.panic c) a w) (W : World) (ab ao j n ca n6 : Nat) (csl : List Value) (x y : Value) (hj : j < n) (hrg : W.rangeAt ab (ao + j * 36) csl) (hl : csl.length = 36) (c0 : W.cell? ⟨n6, 0, none⟩ = some x) (c1 : W.cell? ⟨n6, 1, none⟩ = some y)
    (a : Act) (hs : 54 < a.tmps.size) (e0 : a.eval (.tmp 0) = .slice (some ⟨ab, ao, none⟩) n ca) (e7 : a.eval (.tmp 7) = .int .i64 j) (e8 : a.eval (.tmp 8) = .pointer (some ⟨n6, 0, none⟩)) (R : World → Prop) (hc : Calls Try.prog 21 #[.agg csl.toArray, .agg #[x, y]] W.drew fun e w' => e = .returned (.bool true) ∧ R w')
    (h : ∀ w', R w' → Q .normal (((((((a.put (some 48) (.slice (some ⟨ab, ao, none⟩) n ca)).put (some 49) (.int .i64 j)).put (some 50) (.pointer (some ⟨ab, ao + j * 36, none⟩))).put (some 51) (.agg csl.toArray)).put (some 52) (.agg #[x, y])).put (some 53) (.bool true)).put (some 54) (.bool false)) w') :
    Code.wp Try.prog (.region 15 (ops15 s) true) Q a W := by
  refine wp_region_any (by kernel_rfl) ?_
  change wpAny _ _ _ _ _ _ _ (World.drew _)
  refine wpAny_take (i := 0) (oi := s15_0 s) (v := .slice (some ⟨ab, ao, none⟩) n ca) (by kernel_rfl) (by kernel_rfl) (by kernel_rfl) (by kernel_rfl) (fun c a w h => hQ c _ _ _ w h) (Or.inl ⟨wanted_none rfl, fun w => by simp only [execOp, s15_0, e0]; rfl⟩) ?_
  change wpAny _ _ _ _ _ _ (a.put (some 48) (.slice (some ⟨ab, ao, none⟩) n ca)) _
  obtain ⟨a1, ha1⟩ : ∃ rr : Act, rr = a.put (some 48) (.slice (some ⟨ab, ao, none⟩) n ca) := ⟨_, rfl⟩
  have z1 : 54 < a1.tmps.size := by rw [ha1, sz_put]; exact hs
  have f7 : a1.eval (.tmp 7) = .int .i64 j := by rw [ha1, ev_other _ _ _ _ (by decide)]; exact e7
  have f8 : a1.eval (.tmp 8) = .pointer (some ⟨n6, 0, none⟩) := by rw [ha1, ev_other _ _ _ _ (by decide)]; exact e8
  have f48 : a1.eval (.tmp 48) = .slice (some ⟨ab, ao, none⟩) n ca := by rw [ha1]; exact ev_same _ _ _ (Nat.lt_trans (by decide) hs)
  rw [← ha1] at h ⊢
  clear ha1 e0 e7 e8
  refine wpAny_take (i := 1) (oi := s15_1 s) (v := .int .i64 j) (by kernel_rfl) (by kernel_rfl) (by kernel_rfl) (by kernel_rfl) (fun c a w h => hQ c _ _ _ w h) (Or.inl ⟨wanted_none rfl, fun w => by simp only [execOp, s15_1, f7]; rfl⟩) ?_
  change wpAny _ _ _ _ _ _ (a1.put (some 49) (.int .i64 j)) _
  obtain ⟨a2, ha2⟩ : ∃ rr : Act, rr = a1.put (some 49) (.int .i64 j) := ⟨_, rfl⟩
  have z2 : 54 < a2.tmps.size := by rw [ha2, sz_put]; exact z1
  have g8 : a2.eval (.tmp 8) = .pointer (some ⟨n6, 0, none⟩) := by rw [ha2, ev_other _ _ _ _ (by decide)]; exact f8
  have g48 : a2.eval (.tmp 48) = .slice (some ⟨ab, ao, none⟩) n ca := by rw [ha2, ev_other _ _ _ _ (by decide)]; exact f48
  have g49 : a2.eval (.tmp 49) = .int .i64 j := by rw [ha2]; exact ev_same _ _ _ (Nat.lt_trans (by decide) z1)
  rw [← ha2] at h ⊢
  clear ha2 f7 f8 f48
  refine wpAny_take (i := 2) (oi := s15_2 s) (v := .pointer (some ⟨ab, ao + j * 36, none⟩)) (by kernel_rfl) (by kernel_rfl) (by kernel_rfl) (by kernel_rfl) (fun c a w h => hQ c _ _ _ w h) (Or.inl ⟨wanted_none rfl, fun w => index_add s a2 ab ao n ca j hj g48 g49 w⟩) ?_
  change wpAny _ _ _ _ _ _ (a2.put (some 50) (.pointer (some ⟨ab, ao + j * 36, none⟩))) _
  obtain ⟨a3, ha3⟩ : ∃ rr : Act, rr = a2.put (some 50) (.pointer (some ⟨ab, ao + j * 36, none⟩)) := ⟨_, rfl⟩
  have z3 : 54 < a3.tmps.size := by rw [ha3, sz_put]; exact z2
  have k8 : a3.eval (.tmp 8) = .pointer (some ⟨n6, 0, none⟩) := by rw [ha3, ev_other _ _ _ _ (by decide)]; exact g8
  have k50 : a3.eval (.tmp 50) = .pointer (some ⟨ab, ao + j * 36, none⟩) := by rw [ha3]; exact ev_same _ _ _ (Nat.lt_trans (by decide) z2)
  rw [← ha3] at h ⊢
  clear ha3 g8 g48 g49
  have tail : ∀ (b : Act) (listed : Array Bool), b = (a3.put (some 51) (.agg csl.toArray)).put (some 52) (.agg #[x, y]) → listed = #[true, true, true, true, true, false, false] → wpAny Try.prog .any (ops15 s) Q 2 listed b W.drew := by
    intro b listed hb hli
    subst hli
    have zb : 54 < b.tmps.size := by rw [hb, sz_put, sz_put]; exact z3
    have b51 : b.eval (.tmp 51) = .agg csl.toArray := by rw [hb, ev_other _ _ _ _ (by decide)]; exact ev_same _ _ _ (Nat.lt_trans (by decide) z3)
    have b52 : b.eval (.tmp 52) = .agg #[x, y] := by rw [hb]; exact ev_same _ _ _ (by rw [sz_put]; exact Nat.lt_trans (by decide) z3)
    rw [← hb] at h
    clear hb
    refine wpAny_ready (rs := [5]) (by kernel_rfl) (by simp) ?_
    refine AllReady.cons (o := s15_5 s) (by kernel_rfl) (fun K hK => ?_) AllReady.nil
    rw [if_pos (wanted_none rfl)]
    refine step_enter 21 #[.agg csl.toArray, .agg #[x, y]] (by rw [enter_same, b51, b52]) (.bool true) R hc (fun w' hR => ?_)
    refine hK _ _ ?_
    clear hK K
    change wpAny _ _ _ _ _ _ (b.put (some 53) (.bool true)) _
    refine wpAny_take (i := 6) (oi := s15_6 s) (v := .bool false) (by kernel_rfl) (by kernel_rfl) (by kernel_rfl) (by kernel_rfl) (fun c a w h => hQ c _ _ _ w h) (Or.inl ⟨wanted_none rfl, fun w => by
      have e := ev_same b 53 (.bool true) (Nat.lt_trans (by decide) zb)
      simp only [execOp, s15_6, e]; rfl⟩) ?_
    refine wpAny_done (by kernel_rfl) ?_ _
    exact h w' hR
  refine wpAny_ready (rs := [3, 4]) (by kernel_rfl) (by simp) ?_
  refine AllReady.cons (o := s15_3 s) (by kernel_rfl) (fun K hK => ?_) (AllReady.cons (o := s15_4 s) (by kernel_rfl) (fun K hK => ?_) AllReady.nil)
  · rw [if_pos (wanted_none rfl)]
    refine wp_load_mid 37 (.tmp 50) rfl ab (ao + j * 36) k50 csl _ ((World.rangeAt_drew _ _ _ _).2 hrg) Try.underlying37 rfl (by rw [hl]; kernel_rfl) ?_
    refine hK _ _ ?_
    clear hK K
    change wpAny _ _ _ _ _ _ (a3.put (some 51) (.agg csl.toArray)) _
    refine wpAny_ready (rs := [4]) (by kernel_rfl) (by simp) ?_
    refine AllReady.cons (o := s15_4 s) (by kernel_rfl) (fun K hK => ?_) AllReady.nil
    rw [if_pos (wanted_none rfl)]
    refine step_load 50 (.tmp 8) rfl (.agg #[x, y]) (by rw [ev_other _ _ _ _ (by decide), k8]; exact loadGot2 c0 c1) ?_
    refine hK _ _ ?_
    clear hK K
    exact tail _ _ rfl (by kernel_rfl)
  · rw [if_pos (wanted_none rfl)]
    refine step_load 50 (.tmp 8) rfl (.agg #[x, y]) (by rw [k8]; exact loadGot2 c0 c1) ?_
    refine hK _ _ ?_
    clear hK K
    change wpAny _ _ _ _ _ _ (a3.put (some 52) (.agg #[x, y])) _
    refine wpAny_ready (rs := [3]) (by kernel_rfl) (by simp) ?_
    refine AllReady.cons (o := s15_3 s) (by kernel_rfl) (fun K hK => ?_) AllReady.nil
    rw [if_pos (wanted_none rfl)]
    refine wp_load_mid 37 (.tmp 50) rfl ab (ao + j * 36) (by rw [ev_other _ _ _ _ (by decide)]; exact k50) csl _ ((World.rangeAt_drew _ _ _ _).2 hrg) Try.underlying37 rfl (by rw [hl]; kernel_rfl) ?_
    refine hK _ _ ?_
    clear hK K
    exact tail _ _ (put_comm _ _ _ _ _ (by decide)) (by kernel_rfl)
end Go.Proofs.Ytinjcefekbpabaa
