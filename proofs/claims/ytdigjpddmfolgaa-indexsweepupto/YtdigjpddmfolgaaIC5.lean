/- Next: the region that tells the answer. -/
import Derived.Test.YtdigjpddmfolgaaIC2
namespace Go.Proofs.Ytdigjpddmfolgaa
set_option linter.unusedVariables false
set_option linter.unusedSimpArgs false
namespace TX
set_option maxRecDepth 100000
set_option maxHeartbeats 8000000
open Go.RowKit Go.Sort

theorem load_bool {w : World} {b : Nat} {v : Bool} (h : Blk w b #[.bool v] BT) : (Instr.loadAt BT (.pointer (some ⟨b, 0, none⟩))).run Try.prog w = .ok (.bool v) w := by
  have hu := Try.underlying4
  have hc : w.cell? ⟨b, 0, none⟩ = some (.bool v) := by rw [h.cell]; rfl
  simp [go_sem, hc, hu]
theorem wp_calm {P : Program} {c : Code} {K : Act → World → Prop} {Q' : Exit → Act → World → Prop} {a : Act} {w : World} (h : c.wp P (Exit.then K (fun _ _ _ => False)) a w) : c.wp P (Exit.then K Q') a w := wp_mono h (fun e a w q => by cases e <;> first | exact q | exact q.elim)
def nx18_0 (s : String) : Oper := { dst := some 69, op := Op.load 57 (Operand.tmp 8), type := 57, pos := s, after := #[], guard := none }
def nx18_1 (s : String) : Oper := { dst := some 70, op := Op.load 4 (Operand.tmp 10), type := 4, pos := s, after := #[{ on := 2, ground := Ground.gcOnly Departure.lateStores }], guard := none }
def nx18_2 (s : String) : Oper := { dst := none, op := Op.store 57 (Operand.tmp 6) (Operand.tmp 69), type := 0, pos := s, after := #[{ on := 0, ground := Ground.data }, { on := 0, ground := Ground.phase }, { on := 1, ground := Ground.textOnly Departure.lateStores }], guard := none }
def nx18_3 (s : String) : Oper := { dst := some 7, op := Op.assign (Operand.tmp 70), type := 4, pos := s, after := #[{ on := 1, ground := Ground.data }, { on := 2, ground := Ground.chain }, { on := 0, ground := Ground.phase }, { on := 1, ground := Ground.phase }, { on := 2, ground := Ground.phase }], guard := none }
def nx18_ops (s : String) : Array Oper := #[nx18_0 s, nx18_1 s, nx18_2 s, nx18_3 s]
theorem nx18_walk (s : String) {Q : Exit → Act → World → Prop} (hQ : ∀ c (a : Act) t v w, Q (.panic c) (a.put (some t) v) w → Q (.panic c) a w) (W : World) (N : Nat) (v : KY × EN) (b : Bool) (hR : Blk W.drew (N + 2) (kdA kdZ) KDT) (hv : Blk W.drew (N + 3) (kdA v) KDT) (hb : Blk W.drew (N + 4) #[.bool b] BT)
    (a : Act) (hs : 70 < a.tmps.size) (e6 : a.eval (.tmp 6) = .pointer (some ⟨N + 2, 0, none⟩)) (e8 : a.eval (.tmp 8) = .pointer (some ⟨N + 3, 0, none⟩)) (e10 : a.eval (.tmp 10) = .pointer (some ⟨N + 4, 0, none⟩))
    (h0 :  Q .normal (((a.put (some 69) (kdV v)).put (some 70) (.bool b)).put (some 7) (.bool b)) (W.drew.setCells (N + 2) 0 (kdC v))) :
    Code.wp Try.prog (.region 18 (nx18_ops s) true) Q a W := by
  refine wp_region_held_drew (S := fun w0 => Blk w0 (N + 3) (kdA v) KDT ∧ Blk w0 (N + 4) #[.bool b] BT) (by kernel_rfl) ⟨hv, hb⟩ (fun hS => ?_)
  change wpAnyH _ _ _ _ _ _ _ _ (World.drew _)
  refine wpAnyH_take (i := 0) (oi := nx18_0 s) (v := kdV v) (by kernel_rfl) (by kernel_rfl) (by kernel_rfl) (by kernel_rfl) (fun c a w h => hQ c _ _ _ w h) (Or.inl ⟨wanted_none rfl, fun w hw => run_loadO rfl e8 (run_ldKD hw.1)⟩) hS ?_
  change wpAnyH _ _ _ _ _ _ _ (a.put (some 69) (kdV v)) _
  obtain ⟨a0_1, ha1⟩ : ∃ rr : Act, rr = a.put (some 69) (kdV v) := ⟨_, rfl⟩
  have qz1 : 70 < a0_1.tmps.size := by rw [ha1, sz_put]; exact hs
  have f1_6 : a0_1.eval (.tmp 6) = .pointer (some ⟨N + 2, 0, none⟩) := by rw [ha1, ev_other _ _ _ _ (by decide)]; exact e6
  have f1_10 : a0_1.eval (.tmp 10) = .pointer (some ⟨N + 4, 0, none⟩) := by rw [ha1, ev_other _ _ _ _ (by decide)]; exact e10
  have f1_69 : a0_1.eval (.tmp 69) = kdV v := by rw [ha1]; exact ev_same _ _ _ (Nat.lt_of_le_of_lt (by decide) hs)
  rw [← ha1] at h0 ⊢
  clear ha1
  refine wpAnyH_take (i := 1) (oi := nx18_1 s) (v := .bool b) (by kernel_rfl) (by kernel_rfl) (by kernel_rfl) (by kernel_rfl) (fun c a w h => hQ c _ _ _ w h) (Or.inl ⟨wanted_none rfl, fun w hw => run_loadO rfl f1_10 (load_bool hw.2)⟩) hS ?_
  change wpAnyH _ _ _ _ _ _ _ (a0_1.put (some 70) (.bool b)) _
  obtain ⟨a0_2, ha2⟩ : ∃ rr : Act, rr = a0_1.put (some 70) (.bool b) := ⟨_, rfl⟩
  have qz2 : 70 < a0_2.tmps.size := by rw [ha2, sz_put]; exact qz1
  have f2_6 : a0_2.eval (.tmp 6) = .pointer (some ⟨N + 2, 0, none⟩) := by rw [ha2, ev_other _ _ _ _ (by decide)]; exact f1_6
  have f2_69 : a0_2.eval (.tmp 69) = kdV v := by rw [ha2, ev_other _ _ _ _ (by decide)]; exact f1_69
  have f2_70 : a0_2.eval (.tmp 70) = .bool b := by rw [ha2]; exact ev_same _ _ _ (Nat.lt_of_le_of_lt (by decide) qz1)
  rw [← ha2] at h0 ⊢
  clear ha2
  refine wpAnyH_ready (rs := [2]) (by kernel_rfl) (by simp) ?_
  refine AllReadyH.cons (o := nx18_2 s) (by kernel_rfl) (fun KQ hKQ => ?_) AllReadyH.nil
  rw [if_pos (wanted_none rfl)]
  refine step_skipE (W.drew.setCells (N + 2) 0 (kdC v)) (run_stoKD (.tmp 6) (.tmp 69) rfl (N + 2) f2_6 kdZ v f2_69 hR) ?_
  have hS2 : Blk (W.drew.setCells (N + 2) 0 (kdC v)) (N + 3) (kdA v) KDT ∧ Blk (W.drew.setCells (N + 2) 0 (kdC v)) (N + 4) #[.bool b] BT := ⟨hv.grown (KD.put hR v).2 (fun e => by have := Option.some.inj e; omega), hb.grown (KD.put hR v).2 (fun e => by have := Option.some.inj e; omega)⟩
  refine hKQ.out _ _ (hS2) (fun _ => ?_)
  clear hKQ KQ
  change wpAnyH _ _ _ _ _ _ _ a0_2 _
  refine wpAnyH_take (i := 3) (oi := nx18_3 s) (v := .bool b) (by kernel_rfl) (by kernel_rfl) (by kernel_rfl) (by kernel_rfl) (fun c a w h => hQ c _ _ _ w h) (Or.inl ⟨wanted_none rfl, fun w hw => by simp only [execOp, nx18_3, f2_70]; rfl⟩) hS2 ?_
  change wpAnyH _ _ _ _ _ _ _ (a0_2.put (some 7) (.bool b)) _
  obtain ⟨a0_4, ha4⟩ : ∃ rr : Act, rr = a0_2.put (some 7) (.bool b) := ⟨_, rfl⟩
  have qz4 : 70 < a0_4.tmps.size := by rw [ha4, sz_put]; exact qz2
  rw [← ha4] at h0 ⊢
  clear ha4
  refine wpAnyH_done (by kernel_rfl) ?_ _
  exact h0
end TX
end Go.Proofs.Ytdigjpddmfolgaa
