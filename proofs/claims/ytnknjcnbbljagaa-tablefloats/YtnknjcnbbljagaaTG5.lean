/- Rows of floats; the state of TableFloats; the hash. -/
import Derived.Test.YtnknjcnbbljagaaTG4
import Derived.Test.YtnknjcnbbljagaaTN5
namespace Go.Proofs.Ytnknjcnbbljagaa
set_option linter.unusedVariables false
set_option linter.unusedSimpArgs false
namespace FF
set_option maxRecDepth 100000
open Go.RowKit

def f64c (n : Nat) : Value := .float .f64 n
theorem infoF64 : (Try.prog.info? 51).map (fun i => (i.zero, i.size, i.bytes)) = some (some (.float .f64 0), 1, 8) := by kernel_rfl
/-- A row of the call's own that holds these floats. -/
def OwnsF (w : World) (base : Nat) (v : Value) (xs : List Nat) : Prop := w.ownsRow base 51 1 v xs.length (xs.map f64c)
theorem OwnsF.below {w w' : World} {base : Nat} {v : Value} {xs : List Nat} (h : OwnsF w base v xs) (hb : Below w.heap.size w w') : OwnsF w' base v xs := owns_below h hb
theorem OwnsF.form {w : World} {base : Nat} {v : Value} {xs : List Nat} (h : OwnsF w base v xs) : ∃ ao cap, v = .slice ao xs.length cap ∧ (0 < xs.length → ∃ g, ao = some ⟨g, 0, none⟩) := by
  obtain ⟨hl, ⟨rfl, h2⟩ | ⟨g, cap, cur, rfl, r⟩⟩ := h
  · exact ⟨none, 0, by rw [h2], fun h => by omega⟩
  · exact ⟨some ⟨g, 0, none⟩, cap, rfl, fun _ => ⟨g, rfl⟩⟩
theorem OwnsF.at {w : World} {base g n cap : Nat} {xs : List Nat} (h : OwnsF w base (.slice (some ⟨g, 0, none⟩) n cap) xs) (k : Nat) (hk : k < xs.length) : w.cell? ⟨g, k, none⟩ = some (.float .f64 xs[k]) := by
  obtain ⟨hl, ⟨h1, _⟩ | ⟨g', cap', cur, e, hb, hg, hc, hm, hs, ht⟩⟩ := h
  · cases h1
  · cases e
    have hB : Blk w g cur 51 := hg
    rw [hB.cell, ← Array.getElem?_toList]
    have : (cur.toList.take (xs.length * 1))[k]? = some (f64c xs[k]) := by rw [ht]; simp [List.getElem?_eq_getElem hk]
    rw [List.getElem?_take_of_lt (by omega)] at this
    exact this
theorem OwnsF.grown {w w' : World} {base : Nat} {v : Value} {xs : List Nat} {row : Option Nat} (h : OwnsF w base v xs) (hg : w.grownBy w' row) (hne : ∀ g, v.ownBlock = some g → some g ≠ row) : OwnsF w' base v xs := by
  obtain ⟨h0, h1 | ⟨g, cap, cur, rfl, hb, hh, hx⟩⟩ := h
  · exact ⟨h0, .inl h1⟩
  · exact ⟨h0, .inr ⟨g, cap, cur, rfl, hb, (hg.block g (Array.getElem?_eq_some_iff.1 hh).1 (hne g rfl)).trans hh, hx⟩⟩
theorem wpList_append_flt {ops : Array Oper} {rest : List Oper} {o : Oper} {a : Act} {w : World} {Q : Exit → Act → World → Prop} (hgd : o.guard = none) (s x : Operand) (ho : o.op = .call { callee := .builtin .append, args := #[s, x], argTypes := #[54, 54] })
    (base : Nat) (v : Value) (xs : List Nat) (hs : a.eval s = v) (hown : OwnsF w base v xs) (z c : Nat) (hx : a.eval x = .slice (some ⟨z, 0, none⟩) 1 c) (y : Nat) (hc : w.cell? ⟨z, 0, none⟩ = some (.float .f64 y)) (hlen : xs.length + 1 ≤ 17592186044416) (hbase : base ≤ w.heap.size)
    (h : ∀ v' w', Hid (OwnsF w' base v' (xs ++ [y])) → Hid (w.grownBy w' v.ownBlock) → Hid (v'.ownBlock = v.ownBlock ∨ v'.ownBlock = some w.heap.size) → wpList Try.prog ops Q rest (a.put o.dst v') w') : wpList Try.prog ops Q (o :: rest) a w := by
  obtain ⟨i0, hi, hz0, hz1, hz2⟩ := info_parts infoF64
  refine wpList_append_own_at w hgd s x 54 ho base 51 i0 (.float .f64 0) 1 8 Try.underlying54 hi hz0 hz1 hz2 rfl (by decide) v xs.length (xs.map f64c) hs hown ⟨z, 0, none⟩ 1 c [.float .f64 y] hx rfl ?_ (by intro v hv; simp at hv; subst hv; rfl) (by unfold maxLen; omega) (by omega) hbase ?_
  · intro j u hj
    cases j with
    | zero => cases hj; exact hc
    | succ j => simp at hj
  · intro v' w' h1 h2 _ h4
    exact h v' w' (hide (by unfold OwnsF; rw [List.length_append, List.map_append]; exact h1)) (hide h2) (hide h4)
theorem kind_ne {w : World} {B B' s s' : Nat} {e e' : TypeId} {v u : Value} {n m : Nat} {ys zs : List Value} (ho : w.ownsRow B e s v n ys) (hu : w.ownsRow B' e' s' u m zs) (hte : e ≠ e') : ∀ g, v.ownBlock = some g → u.ownBlock ≠ some g := by
  intro g h1 h2
  obtain ⟨c, t, fz, k1, rfl⟩ := own_type ho g h1
  obtain ⟨c', t', fz', k2, rfl⟩ := own_type hu g h2
  rw [k1] at k2
  cases k2
  exact hte rfl
/-- The table, its keys and values in two rows. -/
structure St (w : World) (z gy ge F : Nat) (kv vv : Value) (T : TB) (M : List (Nat × Int)) (W : World) : Prop where
  tb : TbAt W z gy ge (hvF F 0 0) T
  ks : OwnsF W w.heap.size kv (M.map Prod.fst)
  vs : OwnsI W w.heap.size vv (M.map Prod.snd)
  lo : w.heap.size ≤ z ∧ w.heap.size ≤ gy ∧ w.heap.size ≤ ge
  bel : Below w.heap.size w W
section
variable {w : World} {z gy ge F : Nat} {kv vv : Value} {T : TB} {M : List (Nat × Int)}
theorem St.below {W W' : World} (h : St w z gy ge F kv vv T M W) (hb : Below W.heap.size W W') : St w z gy ge F kv vv T M W' := ⟨h.tb.below hb, h.ks.below hb, h.vs.below hb, h.lo, h.bel.trans (hb.mono h.bel.size)⟩
theorem St.drewN {W : World} (h : St w z gy ge F kv vv T M W) (n : Nat) : St w z gy ge F kv vv T M (W.drewN n) := h.below (below_dN (Below.refl _ _) n)
theorem notB {W : World} {hv : Value} (h : TbAt W z gy ge hv T) {b : Nat} {cs : Array Value} {t : TypeId} {fz : Nat × Nat} (hb : W.heap[b]? = some (.cells cs t fz)) (h1 : t ≠ 113) (h2 : t ≠ 119) : ¬ TbB z gy ge b := by
  have row : ∀ g L, RowAt W g L → b ≠ g := by
    intro g L hr e
    obtain ⟨cur, hc, _⟩ := hr.row
    rw [← e] at hc
    unfold Blk at hc
    rw [hb] at hc
    cases hc
    exact h2 rfl
  rintro (e | e | e)
  · have hz := h.blk
    rw [← e] at hz
    unfold Blk at hz
    rw [hb] at hz
    cases hz
    exact h1 rfl
  · exact row _ _ h.ry e
  · by_cases h0 : T.e.length = 0
    · exact row _ _ h.ry (by rw [e, h.nil h0])
    · exact row _ _ (h.re h0) e
/-- The table has changed. -/
theorem St.table {W W' : World} {T' : TB} (h : St w z gy ge F kv vv T M W) (k : TbS W W' z gy ge (hvF F 0 0) T') : ∃ gy' ge', St w z gy' ge' F kv vv T' M W' := by
  obtain ⟨⟨gy', ge', ht, hn⟩, hf⟩ := k
  obtain ⟨l1, l2, l3⟩ := h.lo
  have hsz := h.bel.size
  have nb : ∀ {k}, TbB z gy ge k → w.heap.size ≤ k := by rintro k (rfl | rfl | rfl) <;> assumption
  refine ⟨gy', ge', ht, owns_frm h.ks hf (fun g e => ?_), owns_frm h.vs hf (fun g e => ?_), ⟨l1, ?_, ?_⟩, ⟨hf.os.trans h.bel.os, hf.tape.trans h.bel.tape, hf.output.trans h.bel.output, Nat.le_trans hsz hf.size, fun k hk => (hf.block k (by omega) (fun e => by have := nb e; omega)).trans (h.bel.block k hk)⟩⟩
  · obtain ⟨cs, t, fz, g1, rfl⟩ := own_type h.ks g e
    exact notB h.tb g1 (by decide) (by decide)
  · obtain ⟨cs, t, fz, g1, rfl⟩ := own_type h.vs g e
    exact notB h.tb g1 (by decide) (by decide)
  · rcases hn gy' (.inr (.inl rfl)) with e | e
    · exact nb e
    · omega
  · rcases hn ge' (.inr (.inr rfl)) with e | e
    · exact nb e
    · omega
end
theorem bits_run (k : Nat) (w : World) : (callFunc 24 #[.float .f64 k]).run Try.prog w = .ok (.value (.int .u64 (k : Int))) w := by
  rw [run_callFunc_extern Try.func24 (by kernel_rfl) (by kernel_rfl) (by kernel_rfl) (e := Extern.MathFloatBits.float64bits) (by kernel_rfl)]
  have hs : (Extern.MathFloatBits.float64bits #[.float .f64 k]).run Try.prog w = .ok (.int .u64 (k : Int)) w := by
    have e : Extern.MathFloatBits.float64bits #[.float .f64 k] = pure (.int .u64 (k : Int)) := rfl
    rw [e]
    exact Sem.run_pure ..
  rw [hs]
  rfl
theorem from_run (k : Nat) (w : World) : (callFunc 25 #[.int .u64 (k : Int)]).run Try.prog w = .ok (.value (.float .f64 k)) w := by
  rw [run_callFunc_extern Try.func25 (by kernel_rfl) (by kernel_rfl) (by kernel_rfl) (e := Extern.MathFloatBits.float64frombits) (by kernel_rfl)]
  have hs : (Extern.MathFloatBits.float64frombits #[.int .u64 (k : Int)]).run Try.prog w = .ok (.float .f64 k) w := by
    have e : Extern.MathFloatBits.float64frombits #[.int .u64 (k : Int)] = pure (.float .f64 ((k : Int).toNat)) := rfl
    rw [e]
    exact Sem.run_pure ..
  rw [hs]
  rfl
/-- TableFloats' hash. -/
def hfF (k : Nat) : Nat := if eqK k 0 then 0 else k % 18446744073709551616 / 4503599627370496
theorem read_mod (a : Nat) : Ieee.double.read a = Ieee.double.read (a % 18446744073709551616) := by
  have hs : Ieee.double.signWeight = 9223372036854775808 := by decide
  unfold Ieee.Format.read
  rw [hs, show a % 18446744073709551616 / 9223372036854775808 % 2 = a / 9223372036854775808 % 2 by omega, show a % 18446744073709551616 % 9223372036854775808 = a % 9223372036854775808 by omega]
theorem eqK_mod (a b : Nat) : eqK a b = eqK (a % 18446744073709551616) (b % 18446744073709551616) := by
  show (Ieee.double.order a b == some .eq) = (Ieee.double.order (a % 18446744073709551616) (b % 18446744073709551616) == some .eq)
  unfold Ieee.Format.order
  rw [read_mod a, read_mod b]
theorem hfF_eq (a b : Nat) (h : eqK a b = true) : hfF a = hfF b := by
  rw [eqK_mod] at h
  unfold hfF
  rw [eqK_mod a 0, eqK_mod b 0]
  have ha : a % 18446744073709551616 < 18446744073709551616 := Nat.mod_lt _ (by decide)
  have hb : b % 18446744073709551616 < 18446744073709551616 := Nat.mod_lt _ (by decide)
  generalize a % 18446744073709551616 = a at *
  generalize b % 18446744073709551616 = b at *
  have z : 0 % 18446744073709551616 = 0 := rfl
  rw [z]
  obtain ⟨_, hc⟩ := eqK_symm ha hb h
  have e := eqK_can ha hb (by decide : (0 : Nat) < 18446744073709551616) hc
  rw [e]
  by_cases h0 : eqK b 0 = true
  · rw [if_pos h0, if_pos h0]
  · rw [if_neg h0, if_neg h0]
    have nb : ¬ b % 9223372036854775808 = 0 := fun e2 => h0 ((eqK_iff b 0 hb (by decide)).2 ⟨by unfold canF; rw [if_pos e2, if_pos (by decide)], by unfold nnF; rw [e2]; exact Nat.zero_le _⟩)
    have na : ¬ a % 9223372036854775808 = 0 := fun e2 => h0 (by rw [← e]; exact (eqK_iff a 0 ha (by decide)).2 ⟨by unfold canF; rw [if_pos e2, if_pos (by decide)], by unfold nnF; rw [e2]; exact Nat.zero_le _⟩)
    unfold canF at hc
    rw [if_neg na, if_neg nb] at hc
    rw [hc]
theorem hash_is : HsAt 23 hfF := by
  refine ⟨fun w k hk => ?_, fun k hk => ?_, enters_of Try.func23 (by kernel_rfl) rfl⟩
  · have hbr := bits_run k w
    cases h : eqK k 0 with
    | true =>
      have hb : (FloatKind.f64.format.order k 0 == some .eq) = true := h
      have HH : Hid (hfF k = 0) := hide (by unfold hfF; rw [if_pos h])
      clear h
      go_enter Try.func23, Try.ntmps23
      go_wp2
      go_ret
      exact ⟨by rw [HH.out]; rfl, rfl⟩
    | false =>
      have hb : (FloatKind.f64.format.order k 0 == some .eq) = false := h
      have HH : Hid (((hfF k : Nat) : Int) = (k : Int) / 4503599627370496) := hide (by unfold hfF; rw [if_neg (by rw [h]; decide), Nat.mod_eq_of_lt hk]; omega)
      clear h
      go_enter Try.func23, Try.ntmps23
      go_wp2
      go_ret
      exact ⟨by rw [HH.out]; rfl, rfl⟩
  · unfold hfF
    split <;> omega
end FF
end Go.Proofs.Ytnknjcnbbljagaa
