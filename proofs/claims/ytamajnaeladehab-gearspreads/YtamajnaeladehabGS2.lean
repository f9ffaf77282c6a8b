/- Spread, the program's. -/
import Derived.Test.YtamajnaeladehabGS1
namespace Go.Proofs.Ytamajnaeladehab
set_option linter.unusedVariables false
set_option linter.unusedSimpArgs false
open Go.RowKit Ieee

@[go_sem] theorem run_store_float (P : Program) (w : World) (a : Addr) (m : Mode) (k : FloatKind) (b : Nat) : (store a (.float k b) m).run P w = stored P w a (.float k b) m := run_store P w a _ m rfl
/-- A slice of ints that can be read. -/
def RdJ (w : World) (v : Value) (xs : List Int) : Prop :=
  ∃ ao c, v = .slice ao xs.length c ∧ xs.length ≤ 9223372036854775807 ∧ (0 < xs.length → ∃ b o, ao = some ⟨b, o, none⟩ ∧ ∀ k (h : k < xs.length), w.cell? ⟨b, o + k, none⟩ = some (.int .i64 xs[k]))
theorem RdJ.below {w w' : World} {v : Value} {xs : List Int} (h : RdJ w v xs) (hb : Below w.heap.size w w') : RdJ w' v xs := by
  obtain ⟨ao, c, e, hl, hf⟩ := h
  refine ⟨ao, c, e, hl, fun h0 => ?_⟩
  obtain ⟨b, o, e2, hc⟩ := hf h0
  exact ⟨b, o, e2, fun k hk => (hb.cell (World.block_lt_of_cell? w _ (hc k hk))).trans (hc k hk)⟩
def I64s (L : List Int) : Prop := ∀ x ∈ L, -9223372036854775808 ≤ x ∧ x ≤ 9223372036854775807
def spL (c l g : Int) (m d : Nat) : Array Value := #[.int .i64 c, .int .i64 l, .int .i64 g, .float .f64 m, .float .f64 d]
/-- What Spread answers. -/
def spR (L : List Int) : Array Value := if L.length = 0 then spL 0 0 0 0 0 else spL L.length (lowK L L.length) (topK L L.length) (runW L L.length).1 (devW L)
theorem infoSp : (Try.prog.info? 25).map (·.size) = some 5 := by kernel_rfl
set_option maxRecDepth 20000 in
set_option maxHeartbeats 1000000 in
theorem sqrt_any (x r : Nat) (h : double.sqrt x = some r) (w : World) : Calls Try.prog 7 #[.float .f64 x] w fun e w' => e = .returned (.float .f64 r) ∧ w' = w := by
  go_enter Try.func7, Try.ntmps7
  go_wp2
  rw [run_callFunc_extern Try.func8 (by kernel_rfl) (by kernel_rfl) (by kernel_rfl) (e := Extern.MathSqrt.sqrt) (by kernel_rfl)]
  have hs : (Extern.MathSqrt.sqrt #[.float .f64 x]).run Try.prog w = .ok (.float .f64 r) w := by
    have h' : FloatKind.f64.format.sqrt x = some r := h
    have e : Extern.MathSqrt.sqrt #[.float .f64 x] = (match FloatKind.f64.format.sqrt x with | some r => (pure (.float .f64 r) : Sem Value) | none => do pure (.float .f64 (← choose (.nanBits .f64 x x)))) := rfl
    rw [e, h']
    exact Sem.run_pure ..
  rw [hs]
  simp only [Result.andThen]
  rw [Oper.upon_value]
  go_wp2
  go_ret
  exact ⟨rfl, rfl⟩
def lowP (L : List Int) (k : Nat) : Int := if k = 0 then L[0]?.getD 0 else lowK L k
def topP (L : List Int) (k : Nat) : Int := if k = 0 then L[0]?.getD 0 else topK L k
theorem lowP_succ (L : List Int) (k : Nat) : lowP L (k + 1) = min (lowP L k) (L[k]?.getD 0) := by
  cases k with
  | zero => simp [lowP, lowK]
  | succ j => rfl
theorem topP_succ (L : List Int) (k : Nat) : topP L (k + 1) = max (topP L k) (L[k]?.getD 0) := by
  cases k with
  | zero => simp [topP, topK]
  | succ j => rfl
theorem fsub {x y r : Nat} (h : double.sub x y = some r) (t : TypeId) (w : World) : (binOp .sub t (.float .f64 x) (.float .f64 y)).run Try.prog w = .ok (.float .f64 r) w := run_float_arith w .sub t .f64 x y r h
theorem fadd {x y r : Nat} (h : double.add x y = some r) (t : TypeId) (w : World) : (binOp .add t (.float .f64 x) (.float .f64 y)).run Try.prog w = .ok (.float .f64 r) w := run_float_arith w .add t .f64 x y r h
theorem fmul {x y r : Nat} (h : double.mul x y = some r) (t : TypeId) (w : World) : (binOp .mul t (.float .f64 x) (.float .f64 y)).run Try.prog w = .ok (.float .f64 r) w := run_float_arith w .mul t .f64 x y r h
theorem fdiv {x y r : Nat} (h : double.div x y = some r) (t : TypeId) (w : World) : (binOp .quo t (.float .f64 x) (.float .f64 y)).run Try.prog w = .ok (.float .f64 r) w := run_float_arith w .quo t .f64 x y r h
def SpC (w : World) (L : List Int) (e : Ending) (w' : World) : Prop := e = .returned (.agg (spR L)) ∧ Below w.heap.size w w'
set_option maxRecDepth 20000 in
set_option maxHeartbeats 2000000 in
theorem spread_any (w : World) (v : Value) (L : List Int) (hv : RdJ w v L) (hL : I64s L) : Calls Try.prog 5 #[v] w (SpC w L) := by
  have HV := hide hv
  have HL := hide hL
  obtain ⟨ao, c, rfl, hlen, -⟩ := hv
  clear hL
  rcases Nat.eq_zero_or_pos L.length with h0 | h0
  · have HR : Hid (spR L = spL 0 0 0 0 0) := hide (by unfold spR; rw [if_pos h0])
    have hk := Blk.made w (spL 0 0 0 0 0) 25
    go_enter Try.func5, Try.ntmps5
    go_wp2
    refine bodyPost_ret (results_cell rfl _ _ _ rfl _ (loadBlkT hk 25 _ Try.underlying25 rfl 5 infoSp rfl)) rfl ?_
    exact ⟨by rw [HR.out], (Below.refl _ _).alloc (Nat.le_refl _) _⟩
  · obtain ⟨b, o, hao, hc⟩ : ∃ b o, ao = some ⟨b, o, none⟩ ∧ ∀ k (h : k < L.length), w.cell? ⟨b, o + k, none⟩ = some (.int .i64 L[k]) := by
      obtain ⟨ao', c', e, _, hf⟩ := HV.out
      cases e
      exact hf h0
    subst hao
    have c0 := hc 0 h0
    rw [Nat.add_zero] at c0
    obtain ⟨x0, hx0⟩ : ∃ x0, x0 = L[0] := ⟨_, rfl⟩
    rw [← hx0] at c0
    have hne := World.new_ne w _ (by rw [c0])
    have HC := hide hc
    have HX0 := hide hx0
    clear hc hx0
    go_enter Try.func5, Try.ntmps5
    go_wp2
    go_region_held3 (fun w' => w'.cell? ⟨b, o, none⟩ = some (.int .i64 x0)) (go_keep) (fail)
    all_goals go_wp2
    go_loopw [4, 5, 25] (fun mv sv iv wr => ∃ k : Nat, iv = .int .i64 k ∧ k ≤ L.length ∧ mv = .float .f64 (runW L k).1 ∧ sv = .float .f64 (runW L k).2 ∧ Blk wr (w.heap.size + 1) (spL L.length (lowP L k) (topP L k) 0 0) 25 ∧ Blk wr w.heap.size (spL 0 0 0 0 0) 25 ∧ Below w.heap.size w wr) (fun _ _ iv _ => L.length - (intOf iv).toNat)
    case atStart =>
      have hx : L[0]?.getD 0 = x0 := by rw [HX0.out, List.getElem?_eq_getElem h0]; rfl
      refine ⟨0, rfl, by omega, rfl, rfl, ?_, ?_, ?_⟩
      · have := (Blk.made (w.alloc (.cells (spL 0 0 0 0 0) 25)) (spL L.length x0 x0 0 0) 25).drew
        simp only [lowP, topP, if_true, hx]
        simpa [spL] using this
      · exact ((Blk.made w (spL 0 0 0 0 0) 25).alloc _).drew
      · exact ⟨rfl, rfl, rfl, by simp; omega, fun i hi => by
          show ((w.alloc _).alloc _).heap[i]? = _
          rw [Below.heap_alloc _ _ _ (by simp; omega), Below.heap_alloc _ _ _ hi]⟩
    case round =>
      obtain ⟨k, rfl, hk, rfl, rfl, hB3, hB2, hBw⟩ := hrel
      by_cases hlt : k < L.length
      · have hki : (k : Int) < L.length := by omega
        have hcell := (hBw.cell (World.block_lt_of_cell? w _ (HC.out k hlt))).trans (HC.out k hlt)
        obtain ⟨n, hn⟩ : ∃ n, n = L[k] := ⟨_, rfl⟩
        have hrk := run_ok L HL.out hlen k hk
        obtain ⟨d, q, e, p, m', s', a1, a2, a3, a4, a5, a6, a7, -⟩ := step_ok k _ _ n hrk (by rw [hn]; exact HL.out _ (List.getElem_mem hlt)) (by omega)
        have hnx : L[k]?.getD 0 = n := by rw [List.getElem?_eq_getElem hlt, hn]; rfl
        have HN1 : Hid (runW L (k + 1) = (m', s')) := hide (by rw [runW, hnx, a7])
        have HLo : Hid (lowP L (k + 1) = min (lowP L k) n) := hide (by rw [lowP_succ, hnx])
        have HTo : Hid (topP L (k + 1) = max (topP L k) n) := hide (by rw [topP_succ, hnx])
        rw [← hn] at hcell
        obtain ⟨m, hm⟩ : ∃ m, m = (runW L k).1 := ⟨_, rfl⟩
        obtain ⟨s, hs⟩ : ∃ s, s = (runW L k).2 := ⟨_, rfl⟩
        obtain ⟨l, hl⟩ : ∃ l, l = lowP L k := ⟨_, rfl⟩
        obtain ⟨g, hg⟩ : ∃ g, g = topP L k := ⟨_, rfl⟩
        rw [← hm] at a1 a3
        rw [← hs] at a6
        rw [← hl] at HLo hB3
        rw [← hg] at HTo hB3
        rw [← hm, ← hs]
        have b1 : wr.cell? ⟨w.heap.size + 1, 1, none⟩ = some (.int .i64 l) := hB3.cell 1
        have b2 : wr.cell? ⟨w.heap.size + 1, 2, none⟩ = some (.int .i64 g) := hB3.cell 2
        have f1 : ∀ i, wr.frozen? ⟨w.heap.size + 1, i, none⟩ = false := fun i => hB3.frozen i
        have fx : fl n = floatOfInt .f64 n := rfl
        have fk : fl ((k : Int) + 1) = floatOfInt .f64 ((k : Int) + 1) := rfl
        rw [fx] at a1 a4
        rw [fk] at a2
        have g1 := fsub a1
        have g2 := fdiv a2
        have g3 := fadd a3
        have g4 := fsub a4
        have g5 := fmul a5
        have g6 := fadd a6
        have HB3 := hide hB3
        have HB2 := hide hB2
        have HBw := hide hBw
        clear a1 a2 a3 a4 a5 a6 a7 hrk hm hs hl hg hB3 hB2 hBw fx fk hnx hn
        go_wp2_with (simp only [g1, g2, g3, g4, g5, g6])
        refine ⟨⟨k + 1, by go_num, by omega, by rw [HN1.out], by rw [HN1.out], ?_, ?_, ?_⟩, by simp [intOf]; omega⟩
        · have h := (HB3.out.set 1 (.int .i64 (if n < l then n else l))).set 2 (.int .i64 (if g < n then n else g))
          have e1 : min l n = if n < l then n else l := by split <;> omega
          have e2 : max g n = if g < n then n else g := by split <;> omega
          rw [HLo.out, HTo.out, e1, e2]
          exact h
        · exact (HB2.out.setOther _ _ (by simp)).setOther _ _ (by simp)
        · exact (HBw.out.setCell (by simp) _).setCell (by simp) _
      · have hki : ¬ (k : Int) < L.length := by omega
        have hkl : k = L.length := by omega
        obtain ⟨q, a1, a2, -⟩ := dev_ok L HL.out hlen h0
        have HR : Hid (spR L = spL L.length (lowP L k) (topP L k) (runW L k).1 (devW L)) := hide (by
          unfold spR
          rw [if_neg (by omega), hkl]
          unfold lowP topP
          rw [if_neg (by omega), if_neg (by omega)])
        rw [← hkl] at a1
        obtain ⟨m, hm⟩ : ∃ m, m = (runW L k).1 := ⟨_, rfl⟩
        obtain ⟨s, hs⟩ : ∃ s, s = (runW L k).2 := ⟨_, rfl⟩
        obtain ⟨l, hl⟩ : ∃ l, l = lowP L k := ⟨_, rfl⟩
        obtain ⟨g, hg⟩ : ∃ g, g = topP L k := ⟨_, rfl⟩
        obtain ⟨dd, hdd⟩ : ∃ dd, dd = devW L := ⟨_, rfl⟩
        rw [← hs] at a1
        rw [← hdd] at a2
        rw [← hl, ← hg] at hB3
        rw [← hl, ← hg, ← hm, ← hdd] at HR
        rw [← hm, ← hs]
        have fk : fl ((k : Nat) : Int) = floatOfInt .f64 (L.length : Int) := by rw [hkl]; rfl
        rw [fk] at a1
        have g1 := fdiv a1
        have HSq := hide (fun w => sqrt_any q dd a2 w)
        have b0 : wr.cell? ⟨w.heap.size + 1, 0, none⟩ = some (.int .i64 L.length) := hB3.cell 0
        have b1 : wr.cell? ⟨w.heap.size + 1, 1, none⟩ = some (.int .i64 l) := hB3.cell 1
        have b2 : wr.cell? ⟨w.heap.size + 1, 2, none⟩ = some (.int .i64 g) := hB3.cell 2
        have b3 : wr.cell? ⟨w.heap.size + 1, 3, none⟩ = some (.float .f64 0) := hB3.cell 3
        have b4 : wr.cell? ⟨w.heap.size + 1, 4, none⟩ = some (.float .f64 0) := hB3.cell 4
        have f1 : ∀ i, wr.frozen? ⟨w.heap.size + 1, i, none⟩ = false := fun i => hB3.frozen i
        have d0 : wr.cell? ⟨w.heap.size, 0, none⟩ = some (.int .i64 0) := hB2.cell 0
        have d1 : wr.cell? ⟨w.heap.size, 1, none⟩ = some (.int .i64 0) := hB2.cell 1
        have d2 : wr.cell? ⟨w.heap.size, 2, none⟩ = some (.int .i64 0) := hB2.cell 2
        have d3 : wr.cell? ⟨w.heap.size, 3, none⟩ = some (.float .f64 0) := hB2.cell 3
        have d4 : wr.cell? ⟨w.heap.size, 4, none⟩ = some (.float .f64 0) := hB2.cell 4
        have f2 : ∀ i, wr.frozen? ⟨w.heap.size, i, none⟩ = false := fun i => hB2.frozen i
        have HB3 := hide hB3
        have HB2 := hide hB2
        have HBw := hide hBw
        clear a1 a2 hm hs hl hg hdd hB3 hB2 hBw fk hkl
        go_wp2_with (first | simp only [g1] | (refine (HSq.out _).mono ?_; rintro e w' ⟨rfl, rfl⟩))
        have hk2 := (((((((HB2.out.setOther ⟨w.heap.size + 1, 3, none⟩ (.float .f64 m) (by simp)).setOther ⟨w.heap.size + 1, 4, none⟩ (.float .f64 dd) (by simp)).set 0 (.int .i64 L.length)).set 1 (.int .i64 l)).set 2 (.int .i64 g)).set 3 (.float .f64 m)).set 4 (.float .f64 dd))
        refine bodyPost_ret (results_cell rfl _ _ _ rfl _ (loadBlkT hk2 25 _ Try.underlying25 rfl 5 infoSp rfl)) rfl ?_
        refine ⟨by rw [HR.out]; rfl, ?_⟩
        exact ((((((HBw.out.setCell (by simp) _).setCell (by simp) _).setCell (by simp) _).setCell (by simp) _).setCell (by simp) _).setCell (by simp) _).setCell (by simp) _
end Go.Proofs.Ytamajnaeladehab
