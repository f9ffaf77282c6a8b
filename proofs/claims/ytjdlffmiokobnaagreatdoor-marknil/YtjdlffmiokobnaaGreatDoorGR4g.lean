/- A ring: its values are laid into another row; it grows. -/
import Derived.Test.YtjdlffmiokobnaaGreatDoorGR3g
namespace Go.Proofs.YtjdlffmiokobnaaGreatDoor
set_option linter.unusedVariables false
set_option linter.unusedSimpArgs false
namespace RG
open Go.RowKit
set_option maxRecDepth 100000

/-- What changes: of the old blocks those alone of which T speaks. -/
structure Frm (w w' : World) (T : Nat → Prop) : Prop where
  os : w'.os = w.os
  tape : w'.tape = w.tape
  output : w'.output = w.output
  size : w.heap.size ≤ w'.heap.size
  block : ∀ k, k < w.heap.size → ¬ T k → w'.heap[k]? = w.heap[k]?
theorem Frm.refl (w : World) (T : Nat → Prop) : Frm w w T := ⟨rfl, rfl, rfl, Nat.le_refl _, fun _ _ _ => rfl⟩
theorem Frm.of_below {w w' : World} {T : Nat → Prop} (h : Below w.heap.size w w') : Frm w w' T := ⟨h.os, h.tape, h.output, h.size, fun k hk _ => h.block k hk⟩
theorem Frm.of_grown {w w' : World} {T : Nat → Prop} {g : Nat} (h : w.grownBy w' (some g)) (hg : T g ∨ w.heap.size ≤ g) : Frm w w' T := ⟨h.os, h.tape, h.output, h.size, fun k hk hT => h.block k hk (fun e => by
  cases e
  rcases hg with hg | hg
  · exact hT hg
  · omega)⟩
theorem Frm.trans {a b c : World} {T T' : Nat → Prop} (h : Frm a b T) (k : Frm b c T') (hs : ∀ i, i < a.heap.size → T' i → T i) : Frm a c T :=
  ⟨k.os.trans h.os, k.tape.trans h.tape, k.output.trans h.output, Nat.le_trans h.size k.size, fun i hi hT => (k.block i (Nat.lt_of_lt_of_le hi h.size) (fun e => hT (hs i hi e))).trans (h.block i hi hT)⟩
theorem Frm.set (w : World) (T : Nat → Prop) (g i : Nat) (v : Value) (hg : T g) : Frm w (w.setCell ⟨g, i, none⟩ v) T :=
  ⟨rfl, rfl, rfl, by simp, fun k _ hn => heap_setCell_other w _ k v (fun e => hn (by rw [e]; exact hg))⟩
theorem Frm.put {w w' : World} {T : Nat → Prop} (h : Frm w w' T) (g i : Nat) (v : Value) (hg : T g ∨ w.heap.size ≤ g) : Frm w (w'.setCell ⟨g, i, none⟩ v) T :=
  h.trans (T' := fun k => k = g) (Frm.set w' _ g i v rfl) (fun i hi e => by
    cases e
    rcases hg with hg | hg
    · exact hg
    · omega)
theorem Frm.drewN {w w' : World} {T : Nat → Prop} (h : Frm w w' T) (n : Nat) : Frm w (w'.drewN n) T := ⟨h.os, h.tape, h.output, h.size, h.block⟩
theorem Frm.undrew {w w' : World} {T : Nat → Prop} (h : Frm w.drew w' T) : Frm w w' T := ⟨h.os, h.tape, h.output, h.size, h.block⟩
theorem Frm.below {w w' : World} {T : Nat → Prop} (h : Frm w w' T) {B : Nat} (hB : B ≤ w.heap.size) (hT : ∀ k, T k → B ≤ k) : Below B w w' := ⟨h.os, h.tape, h.output, h.size, fun k hk => h.block k (by omega) (fun e => by have := hT k e; omega)⟩
theorem Frm.wide {w w' : World} {T T' : Nat → Prop} (h : Frm w w' T) (hs : ∀ i, i < w.heap.size → T i → T' i) : Frm w w' T' := ⟨h.os, h.tape, h.output, h.size, fun k hk hT => h.block k hk (fun e => hT (hs k hk e))⟩
theorem Frm.row {w w' : World} {T : Nat → Prop} (h : Frm w w' T) {g : Nat} {S : List EL} (hr : RowEl w g S) (hg : ¬ T g) : RowEl w' g S := (h.block g hr.lt hg).trans hr
theorem Frm.blk {w w' : World} {T : Nat → Prop} (h : Frm w w' T) {g : Nat} {cs : Array Value} {t : TypeId} (hr : Blk w g cs t) (hg : ¬ T g) : Blk w' g cs t := (h.block g hr.lt hg).trans hr
theorem below_dW (w : World) : Below w.heap.size w w.drew := ⟨rfl, rfl, rfl, Nat.le_refl _, fun _ _ => rfl⟩

/-- What lay leaves. -/
def LayC (w : World) (d : Nat) (L : List EL) (e : Ending) (w' : World) : Prop := e = .returned (.tuple #[]) ∧ RowEl w' d L ∧ Frm w w' (fun k => k = d)
section
variable {w : World} {z g : Nat} {zT : TypeId} {M : Nat} {V : List EL}
theorem lay_any (h : RgAt w z g zT M V) (d n2 : Nat) (D : List EL) (hd : RowEl w d D) (hn2 : D.length = n2) (hn48 : n2 ≤ 281474976710656) (hV : V.length ≤ n2) (hdz : d ≠ z) (hdg : d ≠ g) : Calls Tryz.prog 114 #[.pointer (some ⟨z, 0, none⟩), .slice (some ⟨d, 0, none⟩) n2 n2] w (LayC w d (V ++ D.drop V.length)) := by
  obtain ⟨S, b, hz, hg, hR, hS⟩ := h.ex
  have hne := h.ne
  obtain ⟨c, hc⟩ : ∃ c, c = V.length := ⟨_, rfl⟩
  have hlen := hR.len
  have hbn : b ≤ S.length := by rcases hR.bot with q | q <;> omega
  have c2 : w.cell? ⟨z, 2, none⟩ = some (.int .i64 (c : Int)) := by rw [hz.cell, hc]; rfl
  have hzl := hz.lt
  have hlaid := hR.laid
  rw [← hc] at hz hlen hV hlaid ⊢
  obtain ⟨X, hX⟩ : ∃ X, X = (S.drop b).take c := ⟨_, rfl⟩
  obtain ⟨k, hk⟩ : ∃ k, k = X.length := ⟨_, rfl⟩
  have hkc : k = Nat.min (S.length - b) c := by rw [hk, hX, List.length_take, List.length_drop, Nat.min_comm]
  have hkn : k ≤ c := by rw [hkc]; exact Nat.min_le_right _ _
  obtain ⟨X2, hX2⟩ : ∃ X2, X2 = S.take (c - k) := ⟨_, rfl⟩
  have hX2l : X2.length = c - k := by rw [hX2, List.length_take]; omega
  have hXX : X ++ X2 = V := by
    rw [← hlaid, List.take_append, hX, hX2, List.length_drop]
    congr 2
    rw [hkc]
    have e : Nat.min (S.length - b) c = if S.length - b ≤ c then S.length - b else c := Nat.min_def
    rw [e]; split <;> omega
  -- the first copy
  have hd0 : RowEl w.drew d D := hd.below (below_dW w) hd.lt
  obtain ⟨w1, r1, d1, g1⟩ : ∃ w1, (∀ ty, (Builtin.copy_ #[slT, slT] ty #[.slice (some ⟨d, 0, none⟩) c n2, .slice (some ⟨g, if S.length = b then 0 else ofs b, none⟩) (S.length - b) (S.length - b)]).run Tryz.prog w.drew = .ok (.int .i64 (k : Int)) w1) ∧ RowEl w1 d (X ++ D.drop k) ∧ w.drew.grownBy w1 (some d) := by
    have q : ∀ ty, ∃ w', (Builtin.copy_ #[slT, slT] ty #[.slice (some ⟨d, 0, none⟩) c n2, .slice (some ⟨g, if S.length = b then 0 else ofs b, none⟩) (S.length - b) (S.length - b)]).run Tryz.prog w.drew = .ok (.int .i64 (X.length : Int)) w' ∧ RowEl w' d (D.take 0 ++ X ++ D.drop (0 + X.length)) ∧ w.drew.grownBy w' (some d) := fun ty => by
      refine run_cp (w := w.drew) (g := d) (h := g) (o := 0) (p := b) hd0 (by rw [← hk, hkc]) (by omega) (fun hp => ⟨by rw [ofs_is, Nat.zero_mul], ?_, S, hg.below (below_dW w) hg.lt, fun j x hj => ?_⟩)
      · rw [if_neg (by rw [← hk, hkc] at hp; have := Nat.min_le_left (S.length - b) c; have e : Nat.min (S.length - b) c = min (S.length - b) c := rfl; omega)]
      · have hjl := (List.getElem?_eq_some_iff.1 hj).1
        rw [hX, List.getElem?_take_of_lt (by omega), List.getElem?_drop] at hj
        exact hj
    obtain ⟨w1, a1, a2, a3⟩ := q 0
    refine ⟨w1, fun ty => ?_, by simpa [hk] using a2, a3⟩
    have e : ∀ ty, Builtin.copy_ #[slT, slT] ty #[Value.slice (some ⟨d, 0, none⟩) c n2, Value.slice (some ⟨g, if S.length = b then 0 else ofs b, none⟩) (S.length - b) (S.length - b)] = Builtin.copy_ #[slT, slT] 0 #[Value.slice (some ⟨d, 0, none⟩) c n2, Value.slice (some ⟨g, if S.length = b then 0 else ofs b, none⟩) (S.length - b) (S.length - b)] := fun ty => rfl
    rw [e, a1, hk]
  have hz1 : Blk w1 z (rgL g S.length b c) zT := Blk.grown (w := w.drew) hz g1 (fun e => hdz (Option.some.inj e).symm)
  have hg1 : RowEl w1 g S := RowEl.grown (w := w.drew) hg g1 (fun e => hdg (Option.some.inj e).symm)
  -- the second one
  have hd2 : RowEl w1.drew d (X ++ D.drop k) := d1.below (below_dW w1) d1.lt
  obtain ⟨w2, r2, d2, g2⟩ : ∃ w2, (∀ ty, (Builtin.copy_ #[slT, slT] ty #[.slice (some ⟨d, if n2 = k then 0 else ofs k, none⟩) (c - k) (n2 - k), .slice (some ⟨g, 0, none⟩) S.length S.length]).run Tryz.prog w1.drew = .ok (.int .i64 ((c - k : Nat) : Int)) w2) ∧ RowEl w2 d (V ++ D.drop c) ∧ w1.drew.grownBy w2 (some d) := by
    have q : ∀ ty, ∃ w', (Builtin.copy_ #[slT, slT] ty #[.slice (some ⟨d, if n2 = k then 0 else ofs k, none⟩) (c - k) (n2 - k), .slice (some ⟨g, 0, none⟩) S.length S.length]).run Tryz.prog w1.drew = .ok (.int .i64 (X2.length : Int)) w' ∧ RowEl w' d ((X ++ D.drop k).take k ++ X2 ++ (X ++ D.drop k).drop (k + X2.length)) ∧ w1.drew.grownBy w' (some d) := fun ty => by
      refine run_cp (w := w1.drew) (g := d) (h := g) (o := k) (p := 0) hd2 ?_ ?_ (fun hp => ⟨?_, by rw [ofs_is, Nat.zero_mul], S, hg1.below (below_dW w1) hg1.lt, fun j x hj => ?_⟩)
      · rw [hX2l]
        have e : Nat.min S.length (c - k) = min S.length (c - k) := rfl
        rw [e]; omega
      · rw [hX2l, List.length_append, List.length_drop, ← hk]; omega
      · rw [if_neg (by rw [hX2l] at hp; omega)]
      · have hjl := (List.getElem?_eq_some_iff.1 hj).1
        rw [hX2, List.getElem?_take_of_lt (by omega)] at hj
        rw [Nat.zero_add]
        exact hj
    obtain ⟨w2, a1, a2, a3⟩ := q 0
    refine ⟨w2, fun ty => ?_, ?_, a3⟩
    · have e : ∀ ty, Builtin.copy_ #[slT, slT] ty #[Value.slice (some ⟨d, if n2 = k then 0 else ofs k, none⟩) (c - k) (n2 - k), Value.slice (some ⟨g, 0, none⟩) S.length S.length] = Builtin.copy_ #[slT, slT] 0 #[Value.slice (some ⟨d, if n2 = k then 0 else ofs k, none⟩) (c - k) (n2 - k), Value.slice (some ⟨g, 0, none⟩) S.length S.length] := fun ty => rfl
      rw [e, a1, hX2l]
    · have e : (X ++ D.drop k).take k ++ X2 ++ (X ++ D.drop k).drop (k + X2.length) = V ++ D.drop c := by
        rw [List.take_append_of_le_length (by omega), List.take_of_length_le (by omega), hXX, hX2l, show k + (c - k) = c by omega, List.drop_append, List.drop_of_length_le (by omega), List.nil_append, List.drop_drop, ← hk]
        congr 2; omega
      rw [← e]; exact a2
  have hz2 : Blk w2 z (rgL g S.length b c) zT := Blk.grown (w := w1.drew) hz1 g2 (fun e => hdz (Option.some.inj e).symm)
  have HF : Hid (Frm w w2 (fun k => k = d)) := hide (by
    have f1 : Frm w w1 (fun k => k = d) := (Frm.of_grown (w := w.drew) (T := fun k => k = d) g1 (.inl rfl)).undrew
    have f2 : Frm w1 w2 (fun k => k = d) := (Frm.of_grown (w := w1.drew) (T := fun k => k = d) g2 (.inl rfl)).undrew
    exact f1.trans f2 (fun _ _ q => q))
  have HD2 := hide d2
  have H1 : Hid (∃ w', (∀ ty, (Builtin.copy_ #[slT, slT] ty #[.slice (some ⟨d, 0, none⟩) c n2, .slice (some ⟨g, if S.length = b then 0 else ofs b, none⟩) (S.length - b) (S.length - b)]).run Tryz.prog w.drew = .ok (.int .i64 (k : Int)) w') ∧ Blk w' z (rgL g S.length b c) zT ∧ w' = w1) := hide ⟨w1, r1, hz1, rfl⟩
  have H2 : Hid (∃ w', (∀ ty, (Builtin.copy_ #[slT, slT] ty #[.slice (some ⟨d, if n2 = k then 0 else ofs k, none⟩) (c - k) (n2 - k), .slice (some ⟨g, 0, none⟩) S.length S.length]).run Tryz.prog w1.drew = .ok (.int .i64 ((c - k : Nat) : Int)) w') ∧ Blk w' z (rgL g S.length b c) zT ∧ w' = w2) := hide ⟨w2, r2, hz2, rfl⟩
  have HZ := hide hz
  have HZ1 := hide hz1
  have hcn : (c : Int) ≤ (n2 : Int) := by omega
  have hc48 : c ≤ 281474976710656 := by omega
  clear hz hg hR hS hc hlaid hd hd0 hd2 r1 r2 d1 d2 g1 g2 hz1 hg1 hz2 hX hXX hX2 hX2l h hk hkc hn2
  go_enter Tryz.func114, Tryz.ntmps114
  go_upto_region 1 with fail
  refine la1_walk _ (fun _ _ _ _ _ h => h) w z g d b c n2 k zT S hbn (fun w' => w' = w1) HZ.out H1.out _ (Nat.lt_of_sub_pos (by exact Nat.succ_pos _)) rfl rfl ?_
  rintro w' rfl
  simp only [Act.put, List.setIfInBounds_toArray, List.set_cons_zero, List.set_cons_succ]
  generalize hc1 : (Value.slice (some ⟨g, if S.length = b then 0 else ofs b, none⟩) (S.length - b) (S.length - b)) = v20
  clear hc1
  go_upto_region 2 with fail
  refine la2_walk _ (fun _ _ _ _ _ h => h) w' z g d b c n2 k (c - k) zT S hkn hV (fun w' => w' = w2) HZ1.out H2.out _ (Nat.lt_of_sub_pos (by exact Nat.succ_pos _)) rfl rfl rfl ?_
  rintro w' rfl
  simp only [Act.put, List.setIfInBounds_toArray, List.set_cons_zero, List.set_cons_succ]
  generalize hc2 : (Value.slice (some ⟨d, if n2 = k then 0 else ofs k, none⟩) (c - k) (n2 - k)) = v24
  clear hc2
  go_wp2
  go_returns
  exact ⟨rfl, HD2.out, HF.out⟩
end
end RG
end Go.Proofs.YtjdlffmiokobnaaGreatDoor
