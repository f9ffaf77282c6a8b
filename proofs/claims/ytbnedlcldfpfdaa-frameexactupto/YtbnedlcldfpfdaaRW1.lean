/- Records one behind the other: where each lies (pure); rows of ints. -/
import Derived.Test.YtbnedlcldfpfdaaRF4
namespace Go.Proofs.Ytbnedlcldfpfdaa
set_option linter.unusedVariables false
set_option linter.unusedSimpArgs false
open Go.RowKit

def i64c (n : Int) : Value := .int .i64 n
theorem infoI64 : (Try.prog.info? 3).map (fun i => (i.zero, i.size, i.bytes)) = some (some (.int .i64 0), 1, 8) := by kernel_rfl
theorem i64c_one (xs : List Int) : ∀ v ∈ xs.map i64c, v.oneCell' = true := by
  intro v hv
  obtain ⟨u, _, rfl⟩ := List.mem_map.1 hv
  rfl
/-- A row of the call's own that holds these ints. -/
def OwnsI (w : World) (base : Nat) (v : Value) (xs : List Int) : Prop := w.ownsRow base 3 1 v xs.length (xs.map i64c)
theorem wpList_append_int {ops : Array Oper} {rest : List Oper} {o : Oper} {a : Act} {w : World} {Q : Exit → Act → World → Prop} (hgd : o.guard = none) (s x : Operand) (ho : o.op = .call { callee := .builtin .append, args := #[s, x], argTypes := #[34, 34] })
    (base : Nat) (v : Value) (xs : List Int) (hs : a.eval s = v) (hown : OwnsI w base v xs) (z c : Nat) (hx : a.eval x = .slice (some ⟨z, 0, none⟩) 1 c) (y q : Int) (hq : q = y) (hc : w.cell? ⟨z, 0, none⟩ = some (.int .i64 q)) (hlen : xs.length + 1 ≤ 17592186044000) (hbase : base ≤ w.heap.size)
    (h : ∀ v' w', Hid (OwnsI w' base v' (xs ++ [y])) → Hid (w.grownBy w' v.ownBlock) → Hid (v'.ownBlock = v.ownBlock ∨ v'.ownBlock = some w.heap.size) → wpList Try.prog ops Q rest (a.put o.dst v') w') : wpList Try.prog ops Q (o :: rest) a w := by
  subst hq
  obtain ⟨i0, hi, hz0, hz1, hz2⟩ := info_parts infoI64
  refine wpList_append_own_at w hgd s x 34 ho base 3 i0 (.int .i64 0) 1 8 Try.underlying34 hi hz0 hz1 hz2 rfl (by decide) v xs.length (xs.map i64c) hs hown ⟨z, 0, none⟩ 1 c [.int .i64 q] hx rfl ?_ (by intro v hv; simp at hv; subst hv; rfl) (by unfold maxLen; omega) (by omega) hbase ?_
  · intro j u hj
    cases j with
    | zero => cases hj; exact hc
    | succ j => simp at hj
  · intro v' w' h1 h2 _ h4
    exact h v' w' (hide (by unfold OwnsI; rw [List.length_append, List.map_append]; exact h1)) (hide h2) (hide h4)
theorem OwnsI.at {w : World} {base g n cap : Nat} {xs : List Int} (h : OwnsI w base (.slice (some ⟨g, 0, none⟩) n cap) xs) (k : Nat) (hk : k < xs.length) : w.cell? ⟨g, k, none⟩ = some (.int .i64 xs[k]) := by
  obtain ⟨hl, ⟨h1, _⟩ | ⟨g', cap', cur, e, hb, hg, hc, hm, hs, ht⟩⟩ := h
  · cases h1
  · cases e
    have hB : Blk w g cur 3 := hg
    rw [hB.cell, ← Array.getElem?_toList]
    have : (cur.toList.take (xs.length * 1))[k]? = some (i64c xs[k]) := by rw [ht]; simp [List.getElem?_eq_getElem hk]
    rw [List.getElem?_take_of_lt (by omega)] at this
    exact this
theorem OwnsI.below {w w' : World} {base : Nat} {v : Value} {xs : List Int} (h : OwnsI w base v xs) (hb : Below w.heap.size w w') : OwnsI w' base v xs := owns_below h hb
theorem OwnsI.form {w : World} {base : Nat} {v : Value} {xs : List Int} (h : OwnsI w base v xs) : ∃ ao cap, v = .slice ao xs.length cap ∧ (0 < xs.length → ∃ g, ao = some ⟨g, 0, none⟩) := by
  obtain ⟨hl, ⟨rfl, h2⟩ | ⟨g, cap, cur, rfl, r⟩⟩ := h
  · exact ⟨none, 0, by rw [h2], fun h => by omega⟩
  · exact ⟨some ⟨g, 0, none⟩, cap, rfl, fun _ => ⟨g, rfl⟩⟩

theorem blk_own_ne {w : World} {B b : Nat} {cs : Array Value} {t e : TypeId} {v : Value} {n : Nat} {ys : List Value} (hb : Blk w b cs t) (ho : w.ownsRow B e 1 v n ys) (hte : t ≠ e) : ∀ g, v.ownBlock = some g → g ≠ b := by
  intro g hg he
  obtain ⟨_, ⟨rfl, _⟩ | ⟨g', cap, cur, rfl, _, hh, _⟩⟩ := ho
  · cases hg
  · have e2 : g' = g := Option.some.inj hg
    subst e2; subst he
    have := hb.symm.trans hh
    simp only [Option.some.injEq, Obj.cells.injEq] at this
    exact hte this.2.1
theorem own_own_ne {w : World} {B B' : Nat} {e e' : TypeId} {v u : Value} {n m : Nat} {ys zs : List Value} (ho : w.ownsRow B e 1 v n ys) (hu : w.ownsRow B' e' 1 u m zs) (hte : e ≠ e') : ∀ g, v.ownBlock = some g → u.ownBlock ≠ some g := by
  intro g hg hg2
  obtain ⟨_, ⟨rfl, _⟩ | ⟨g', cap, cur, rfl, _, hh, _⟩⟩ := ho
  · cases hg
  obtain ⟨_, ⟨rfl, _⟩ | ⟨g2, cap2, cur2, rfl, _, hh2, _⟩⟩ := hu
  · cases hg2
  have e1 : g' = g := Option.some.inj hg
  have e2 : g2 = g := Option.some.inj hg2
  subst e1; subst e2
  have := hh.symm.trans hh2
  simp only [Option.some.injEq, Obj.cells.injEq] at this
  exact hte this.2.1

/-- Records of some bodies, one behind the other. -/
def recL (ps : List (List UInt8)) : List UInt8 := (ps.map packL).flatten
/-- Where the k-th begins. -/
def offs (ps : List (List UInt8)) (k : Nat) : Nat := (recL (ps.take k)).length
theorem recL_snoc (ps : List (List UInt8)) (k : Nat) (h : k < ps.length) : recL (ps.take (k + 1)) = recL (ps.take k) ++ packL ps[k] := by
  unfold recL
  rw [List.take_succ_eq_append_getElem h, List.map_append, List.flatten_append]; simp
theorem offs_succ (ps : List (List UInt8)) (k : Nat) (h : k < ps.length) : offs ps (k + 1) = offs ps k + (ps[k].length + 10) := by
  unfold offs
  rw [recL_snoc ps k h, List.length_append, packL_len]; omega
theorem recL_split (ps : List (List UInt8)) (k : Nat) (h : k < ps.length) : recL ps = recL (ps.take k) ++ (packL ps[k] ++ recL (ps.drop (k + 1))) := by
  have e : ps = ps.take k ++ (ps[k] :: ps.drop (k + 1)) := by rw [← List.drop_eq_getElem_cons h, List.take_append_drop]
  conv => lhs; rw [e]
  unfold recL
  rw [List.map_append, List.flatten_append, List.map_cons, List.flatten_cons]
theorem rec_read (ps : List (List UInt8)) (k : Nat) (h : k < ps.length) (h1 : ps[k].length ≤ 65526) : upk ((recL ps).drop (offs ps k)) = (ps[k], 10 + ps[k].length, 0) := by
  rw [recL_split ps k h, show offs ps k = (recL (ps.take k)).length from rfl, List.drop_left]
  exact upk_pack _ _ h1
def AllOk (ps : List (List UInt8)) (k : Nat) : Prop := ∀ j (h : j < ps.length), j < k → ps[j].length ≤ 65526
theorem plc_offs (ps : List (List UInt8)) (ok : AllOk ps ps.length) : ∀ k, k ≤ ps.length → plc (recL ps) k = offs ps k
  | 0, _ => by simp [plc, offs, recL]
  | k + 1, h => by
    have hk : k < ps.length := by omega
    rw [plc, plc_offs ps ok k (by omega), rec_read ps k hk (ok k hk hk), offs_succ ps k hk]
    simp only []
    omega
theorem rec_ok (ps : List (List UInt8)) (ok : AllOk ps ps.length) (k : Nat) (h : k < ps.length) : okR (recL ps) k := by
  unfold okR
  rw [plc_offs ps ok k (by omega), rec_read ps k h (ok k h h)]
theorem rec_body (ps : List (List UInt8)) (ok : AllOk ps ps.length) (k : Nat) (h : k < ps.length) : bodyR (recL ps) k = ps[k] := by
  unfold bodyR
  rw [plc_offs ps ok k (by omega), rec_read ps k h (ok k h h)]
theorem offs_all (ps : List (List UInt8)) : offs ps ps.length = (recL ps).length := by unfold offs; rw [List.take_length]
theorem rec_end (ps : List (List UInt8)) (ok : AllOk ps ps.length) : ¬ okR (recL ps) ps.length := by
  unfold okR
  rw [plc_offs ps ok ps.length (Nat.le_refl _), offs_all, List.drop_length]
  decide
theorem rec_count (ps : List (List UInt8)) (ok : AllOk ps ps.length) (k : Nat) (h1 : ∀ j, j < k → okR (recL ps) j) (h2 : ¬ okR (recL ps) k) : k = ps.length := by
  rcases Nat.lt_trichotomy k ps.length with h | h | h
  · exact absurd (rec_ok ps ok k h) h2
  · exact h
  · exact absurd (h1 _ h) (rec_end ps ok)
theorem rec_endE (ps : List (List UInt8)) (ok : AllOk ps ps.length) : endE (recL ps) ps.length = 0 := by
  unfold endE
  rw [plc_offs ps ok ps.length (Nat.le_refl _), offs_all, if_pos rfl]
theorem rec_behind (hd : List UInt8) (ps : List (List UInt8)) (ok : AllOk ps ps.length) (k : Nat) (h : k < ps.length) : unpk (hd ++ recL ps) (((hd.length + offs ps k : Nat) : Int)) = (ps[k], 10 + ps[k].length, 0) := by
  have hle : offs ps k ≤ (recL ps).length := by rw [← plc_offs ps ok k (by omega)]; exact plc_le k (fun j hj => rec_ok ps ok j (by omega))
  rw [unpk_at (by rw [List.length_append]; omega), ← List.drop_drop, List.drop_left, rec_read ps k h (ok k h h)]
theorem offs_mono (ps : List (List UInt8)) (k : Nat) (h : k < ps.length) : offs ps k ≤ offs ps (k + 1) := by rw [offs_succ ps k h]; omega
theorem offs_ten (ps : List (List UInt8)) : ∀ k, k ≤ ps.length → 10 * k ≤ offs ps k
  | 0, _ => by omega
  | k + 1, h => by
    have := offs_ten ps k (by omega)
    rw [offs_succ ps k (by omega)]; omega
theorem offs_le (ps : List (List UInt8)) : ∀ (d k : Nat), k + d = ps.length → offs ps k ≤ offs ps ps.length
  | 0, k, h => by rw [show k = ps.length by omega]; exact Nat.le_refl _
  | d + 1, k, h => Nat.le_trans (offs_mono ps k (by omega)) (offs_le ps d (k + 1) (by omega))
/-- The places, the sizes. -/
def ats (ps : List (List UInt8)) (k : Nat) : List Int := (List.range k).map fun j => ((offs ps j : Nat) : Int)
def szs (ps : List (List UInt8)) (k : Nat) : List Int := (List.range k).map fun j => (((ps[j]?.getD []).length + 10 : Nat) : Int)
theorem ats_len (ps : List (List UInt8)) (k : Nat) : (ats ps k).length = k := by simp [ats]
theorem szs_len (ps : List (List UInt8)) (k : Nat) : (szs ps k).length = k := by simp [szs]
theorem ats_succ (ps : List (List UInt8)) (k : Nat) : ats ps (k + 1) = ats ps k ++ [((offs ps k : Nat) : Int)] := by unfold ats; rw [List.range_succ, List.map_append]; rfl
theorem szs_succ (ps : List (List UInt8)) (k : Nat) (h : k < ps.length) : szs ps (k + 1) = szs ps k ++ [((ps[k].length + 10 : Nat) : Int)] := by
  unfold szs; rw [List.range_succ, List.map_append]
  simp [List.getElem?_eq_getElem h]
theorem ats_at (ps : List (List UInt8)) (k j : Nat) (h : j < k) : (ats ps k)[j]'(by rw [ats_len]; exact h) = ((offs ps j : Nat) : Int) := by simp [ats]
theorem szs_at (ps : List (List UInt8)) (k j : Nat) (h : j < k) (hk : k ≤ ps.length) : (szs ps k)[j]'(by rw [szs_len]; exact h) = (((ps[j]'(by omega)).length + 10 : Nat) : Int) := by
  simp [szs, List.getElem?_eq_getElem (show j < ps.length by omega)]
theorem OwnsI.grown {w w' : World} {base : Nat} {v : Value} {xs : List Int} {row : Option Nat} (h : OwnsI w base v xs) (hg : w.grownBy w' row) (hne : ∀ g, v.ownBlock = some g → some g ≠ row) : OwnsI w' base v xs := owns_grown h hg hne
theorem OwnsB.grown {w w' : World} {base : Nat} {v : Value} {xs : List UInt8} {row : Option Nat} (h : OwnsB w base v xs) (hg : w.grownBy w' row) (hne : ∀ g, v.ownBlock = some g → some g ≠ row) : OwnsB w' base v xs := owns_grown h hg hne
end Go.Proofs.Ytbnedlcldfpfdaa
