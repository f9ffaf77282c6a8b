/- Get, Del. -/
import Derived.Test.YtjhbebaephmcgaaVXH
namespace Go.Proofs.Ytjhbebaephmcgaa
set_option linter.unusedVariables false
set_option linter.unusedSimpArgs false
namespace TX
set_option maxRecDepth 100000
set_option maxHeartbeats 8000000
open Go.RowKit Go.Sort

theorem fnd_some {K V : Type} {eq : K → K → Bool} {L : List (Slt K V)} {h : Nat} {k : K} (h0 : 0 < L.length) : ∀ (f i : Nat) {p n : Nat}, fnd eq L h k f i = (some p, n) → p < L.length ∧ ∃ k' v', sat L p = .ful k' v' ∧ eq k' k = true := by
  intro f
  induction f with
  | zero => intro i p n e; simp [fnd] at e
  | succ f ih =>
    intro i p n e
    cases hs : sat L ((h + i) % L.length) with
    | emp => rw [fnd_emp hs] at e; cases e
    | tmb => rw [fnd_tmb hs] at e; exact ih _ e
    | ful k' v' =>
      cases he : eq k' k with
      | true =>
        rw [fnd_yes hs he] at e
        cases e
        exact ⟨Nat.mod_lt _ h0, k', v', hs, he⟩
      | false => rw [fnd_no hs he] at e; exact ih _ e
theorem find_some {K V : Type} {eq : K → K → Bool} {L : List (Slt K V)} {h : Nat} {k : K} {p n : Nat} (e : find eq L h k = (some p, n)) : p < L.length ∧ ∃ k' v', sat L p = .ful k' v' ∧ eq k' k = true := by
  have h0 : 0 < L.length := by
    rcases Nat.eq_zero_or_pos L.length with h | h
    · unfold find at e; rw [h] at e; simp [fnd] at e
    · exact h
  exact fnd_some h0 _ _ e
theorem seek_some {K V : Type} {eq : K → K → Bool} {hs : K → Nat} {T : Tb K V} {k : K} {b : Bool} {p n : Nat} (e : seek eq hs T k = (some (b, p), n)) : (b = false ∧ p < T.y.length ∧ (∃ k' v', sat T.y p = .ful k' v' ∧ eq k' k = true) ∧ ∃ m, find eq T.y (hs k) k = (some p, m)) ∨ (b = true ∧ p < T.e.length ∧ (∃ k' v', sat T.e p = .ful k' v' ∧ eq k' k = true) ∧ (∃ m, find eq T.y (hs k) k = (none, m)) ∧ ∃ m, find eq T.e (hs k) k = (some p, m)) := by
  unfold seek at e
  cases hy : find eq T.y (hs k) k with
  | mk oy ny =>
    rw [hy] at e
    cases oy with
    | some q =>
      simp only [] at e
      cases e
      exact .inl ⟨rfl, (find_some hy).1, (find_some hy).2, _, rfl⟩
    | none =>
      simp only [] at e
      cases he : find eq T.e (hs k) k with
      | mk oe ne =>
        rw [he] at e
        cases oe with
        | some q =>
          simp only [] at e
          cases e
          exact .inr ⟨rfl, (find_some he).1, (find_some he).2, ⟨_, rfl⟩, _, rfl⟩
        | none => simp only [] at e; cases e
theorem results_cell_tmp {fn : Func} {p q : Tmp} {ty : TypeId} (h : fn.results = #[.cell p ty, .tmp q]) (tmps : Array Value) (w : World) (a : Addr) (ha : tmps.getD p undef = .pointer (some a)) (v u : Value) (hu : tmps.getD q undef = u) (hl : (loadVar ty a).run Try.prog w = .ok v w) :
    (results fn tmps).run Try.prog w = .ok (.tuple #[v, u]) w := by
  simp only [results, h]
  have ha' : tmps[p]?.getD undef = .pointer (some a) := by simpa using ha
  have hu' : tmps[q]?.getD undef = u := by simpa using hu
  simp [Sem.run_bind, Result.andThen, ha', hu', asAddr, hl]
theorem EB.made' {w : World} {n : Nat} (hn : w.heap.size = n) (e : EN) : EB (w.alloc (.cells (eA e) ET)) n e := by rw [← hn]; exact EB.made w e
theorem KB.made' {w : World} {n : Nat} (hn : w.heap.size = n) (k : KY) : KB (w.alloc (.cells (kA k) KT)) n k := by rw [← hn]; exact KB.made w k
theorem KB.alloc {w : World} {b : Nat} {k : KY} (h : KB w b k) (o : Obj) : KB (w.alloc o) b k := Blk.alloc h o
theorem EB.alloc {w : World} {b : Nat} {e : EN} (h : EB w b e) (o : Obj) : EB (w.alloc o) b e := Blk.alloc h o
theorem KB.below {w w' : World} {b : Nat} {k : KY} (h : KB w b k) (hb : Below w.heap.size w w') : KB w' b k := Blk.below h hb (Blk.lt h)
theorem EB.below {w w' : World} {b : Nat} {e : EN} (h : EB w b e) (hb : Below w.heap.size w w') : EB w' b e := Blk.below h hb (Blk.lt h)
section
variable {z gy ge : Nat} {T : TB} {F : Nat} {hf : KY → Nat}
/-- What Get, Put and Del tell. -/
def ansV (T : TB) (r : Option (Bool × Nat)) : Value := .tuple #[eV (valT eZ T r), .bool r.isSome]
theorem get_any (w : World) (H : TbAt w z gy ge (hvF F) T) (HF : HsAt F hf) (k : KY) : Calls Try.prog 8 #[.pointer (some ⟨z, 0, none⟩), kV k] w fun e w' => e = .returned (ansV T (seek eqK hf T k).1) ∧ Below w.heap.size w w' := by
  have HH := hide H
  have HHF := hide HF
  clear H HF
  go_enter Try.func8, Try.ntmps8
  go_upto_region 2 with fail
  refine name_world (fun W => Below w.heap.size w W ∧ KB W w.heap.size k) ⟨below_alloc w _, KB.made w k⟩ ?_
  rintro W ⟨hB, hK⟩
  obtain ⟨kb, hkb⟩ : ∃ kb, kb = w.heap.size := ⟨_, rfl⟩
  rw [← hkb] at hK ⊢
  have HB := hide hB
  have HX : Hid (TbAt W z gy ge (hvF F) T) := hide (HH.out.below hB)
  have HN := hide (none_no W HX.out)
  have HK : Hid (∀ d os, (grow (redrawn W d) os).rangeAt kb 0 (kC k)) := hide (range_regrown hK.rng)
  have c0 : W.cell? ⟨z, 0, none⟩ = some (.func (.func F) #[] #[]) := HX.out.c0
  have d0 := fun d os => cell_regrown c0 d os
  have hzW := HX.out.blk.lt
  have hen := HHF.out.ent
  have HHs : Hid (∀ d os, Calls Try.prog F #[kV k] (grow (redrawn W d) os) fun e w' => e = .returned (.int .u64 (hf k : Int)) ∧ Below (grow (redrawn W d) os).heap.size (grow (redrawn W d) os) w') := hide (fun d os => HHF.out.call _ k)
  have HSk : Hid (∀ d os, Calls Try.prog 18 #[.pointer (some ⟨z, 0, none⟩), .int .u64 (hf k : Int), kV k] (grow (redrawn W d) os) fun e w' => e = .returned (seekV z (seek eqK hf T k)) ∧ Below (grow (redrawn W d) os).heap.size (grow (redrawn W d) os) w') := hide (fun d os => seek_any _ (HX.out.below (below_regrown W d os)) hf k (HHF.out.lt k))
  clear hB hK hkb c0
  go_upto_region 4 with (go_at_call 16; refine HN.out.mono ?_; rintro e w' ⟨rfl, hw⟩; rw [hw]; clear hw)
  refine wp_region_quiet_below (by kernel_rfl) (by kernel_rfl) ?_
  iterate 5 quiet_step (fail)
  refine wpQuiet_val (kV k) rfl (fun w0 hw => ?_) ?_
  · obtain ⟨p0, rfl⟩ := hw
    exact run_loadO rfl rfl (run_ldK (HK.out _ _))
  quiet_step (exact Calls.regrown_of (HHs.out _ _))
  refine wpQuiet_val (kV k) rfl (fun w0 hw => ?_) ?_
  · obtain ⟨p0, rfl⟩ := hw
    exact run_loadO rfl rfl (run_ldK (HK.out _ _))
  quiet_step (exact Calls.regrown_of (HSk.out _ _))
  cases hsk : seek eqK hf T k with
  | mk r n =>
    have HSK := hide hsk
    cases r with
    | none =>
      unfold seekV
      iterate 7 quiet_step (fail)
      refine wpQuiet_nil ?_
      intro W1 hw1
      have hB1 : Below W.heap.size W W1 := below_of hw1
      have HB1 := hide hB1
      clear hw1 hB1 HHs HSk HK d0 hen hsk
      go_wp2
      go_ret2
      exact ⟨by rw [HSK.out]; rfl, HB.out.trans (HB1.out.mono HB.out.size)⟩
    | some bp =>
      obtain ⟨b, p⟩ := bp
      rcases seek_some hsk with ⟨rfl, hp, ⟨k', v', hs', _⟩, _⟩ | ⟨rfl, hp, ⟨k', v', hs', _⟩, _⟩
      · unfold seekV
        iterate 7 quiet_step (fail)
        refine wpQuiet_nil ?_
        intro W1 hw1
        have hB1 : Below W.heap.size W W1 := below_of hw1
        have HB1 := hide hB1
        have hX1 := HX.out.below hB1
        have c1 : W1.cell? ⟨z, 1, none⟩ = some (.slice (some ⟨gy, 0, none⟩) T.y.length T.y.length) := hX1.cellY rfl
        have hv1 : W1.cell? ⟨gy, p * 6 + 5, none⟩ = some (eV v') := by
          have h9 := rng_one (hX1.ry.val p hp)
          rw [hs'] at h9
          exact h9
        have b := hX1.b43.1
        have hv' : valT eZ T (some (false, p)) = v' := by simp [valT, hs', valS]
        have HA : Hid (ansV T (seek eqK hf T k).1 = .tuple #[eV v', .bool true]) := hide (by rw [HSK.out]; unfold ansV; rw [hv']; rfl)
        have hzW1 := hX1.blk.lt
        have hgl := hX1.ry.lt
        generalize T.y.length = nn at *
        have hpi : (p : Int) < (nn : Int) := by omega
        clear hw1 hB1 hX1 HHs HSk HK d0 hen hsk hs' hv'
        go_wp2
        go_ret2
        exact ⟨by rw [HA.out]; rfl, HB.out.trans (HB1.out.mono HB.out.size)⟩
      · unfold seekV
        iterate 7 quiet_step (fail)
        refine wpQuiet_nil ?_
        intro W1 hw1
        have hB1 : Below W.heap.size W W1 := below_of hw1
        have HB1 := hide hB1
        have hX1 := HX.out.below hB1
        have c1 : W1.cell? ⟨z, 4, none⟩ = some (.slice (some ⟨ge, 0, none⟩) T.e.length T.e.length) := hX1.cellE (by omega) rfl
        have hv1 : W1.cell? ⟨ge, p * 6 + 5, none⟩ = some (eV v') := by
          have h9 := rng_one ((hX1.re (by omega)).val p hp)
          rw [hs'] at h9
          exact h9
        have b := hX1.b43.2
        have hv' : valT eZ T (some (true, p)) = v' := by simp [valT, hs', valS]
        have HA : Hid (ansV T (seek eqK hf T k).1 = .tuple #[eV v', .bool true]) := hide (by rw [HSK.out]; unfold ansV; rw [hv']; rfl)
        have hzW1 := hX1.blk.lt
        have hgl := (hX1.re (by omega)).lt
        generalize T.e.length = nn at *
        have hpi : (p : Int) < (nn : Int) := by omega
        clear hw1 hB1 hX1 HHs HSk HK d0 hen hsk hs' hv'
        go_wp2
        go_ret2
        exact ⟨by rw [HA.out]; rfl, HB.out.trans (HB1.out.mono HB.out.size)⟩
end
end TX
end Go.Proofs.Ytjhbebaephmcgaa
