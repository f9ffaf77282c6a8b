/- Next: what the least is (pure); a key with its entry, in memory; what is deferred, at the end. -/
import Derived.Test.YtdigjpddmfolgaaIB
import Derived.Test.YtdigjpddmfolgaaXV
import Derived.Test.YtdigjpddmfolgaaKRF3
namespace Go.Proofs.Ytdigjpddmfolgaa
set_option linter.unusedVariables false
set_option linter.unusedSimpArgs false
namespace TX
open Go.RowKit
set_option maxRecDepth 100000

abbrev KDT : TypeId := 57
abbrev BT : TypeId := 4
def kdC (x : KY × EN) : List Value := kC x.1 ++ eC x.2
def kdA (x : KY × EN) : Array Value := (kdC x).toArray
abbrev kdV (x : KY × EN) : Value := .agg (kdA x)
def kdZ : KY × EN := (kZ, eZ)
theorem kdC_len (x : KY × EN) : (kdC x).length = 36 := by simp [kdC, kC_len, eC_len]
theorem kdA_size (x : KY × EN) : (kdA x).size = 36 := by simp [kdA, kdC_len]
theorem kdC_one (x : KY × EN) : ∀ v ∈ kdC x, v.oneCell' = true := by
  intro v hv
  rcases List.mem_append.1 hv with h | h
  · exact kC_one _ v h
  · exact eC_one _ v h
theorem iKD : (Try.prog.info? KDT).map (·.size) = some 36 := by kernel_rfl
theorem run_ldKD {w : World} {b : Nat} {x : KY × EN} (h : Blk w b (kdA x) KDT) : (Instr.loadAt KDT (.pointer (some ⟨b, 0, none⟩))).run Try.prog w = .ok (kdV x) w :=
  run_loadAt_mid (P := Try.prog) w b 0 KDT (kdC x) _ (Blk.range h) Try.underlying57 rfl (by rw [kdC_len]; exact iKD)
theorem run_stKD {w : World} {b : Nat} {u : KY × EN} (h : Blk w b (kdA u) KDT) (x : KY × EN) : (Instr.storeAt KDT (.pointer (some ⟨b, 0, none⟩)) (kdV x)).run Try.prog w = .ok () (w.setCells b 0 (kdC x)) :=
  run_storeAt_mid (P := Try.prog) w b 0 KDT (kdA x) (there_row h 0 _ (by rw [kdA_size, kdA_size]; omega)) (by rw [kdA_size]; exact iKD) (all_oneCell_toArray (kdC_one x))
theorem KD.put {w : World} {b : Nat} {u : KY × EN} (h : Blk w b (kdA u) KDT) (x : KY × EN) : Blk (w.setCells b 0 (kdC x)) b (kdA x) KDT ∧ w.grownBy (w.setCells b 0 (kdC x)) (some b) :=
  setCells_blk h (kdA x) (by rw [kdA_size, kdA_size])
theorem zero_KD (W : World) : (zeroValue KDT).run Try.prog W = .ok (.agg (kdA kdZ)) W := by kernel_rfl
theorem run_bdKD {op : Oper} {ev : Operand → Value} {x y : Operand} (ho : op.op = .build KDT #[(0, x), (1, y)]) (k : KY) (e : EN) (hx : ev x = kV k) (hy : ev y = eV e) (w : World) : (execOp ev op).run Try.prog w = .ok (.value (kdV (k, e))) w := by
  simp only [execOp, ho]
  simp only [List.map_toArray, List.map_cons, List.map_nil, hx, hy]
  obtain ⟨bs, hk⟩ := k
  obtain ⟨a0, a1, a2, a3, a4, a5, a6, a7, a8, a9, a10, a11, a12, a13, a14, a15, a16, a17, a18, a19, a20, a21, a22, a23, a24, a25, a26, a27, a28, a29, a30, a31, rfl⟩ := list32 hk
  obtain ⟨s, o, z, p⟩ := e
  kernel_rfl
theorem KD.key {w : World} {b : Nat} {x : KY × EN} (h : Blk w b (kdA x) KDT) : w.rangeAt b 0 (kC x.1) := fun j v hj => by
  rw [Nat.zero_add, Blk.cell h, kdA, kdC, List.getElem?_toArray, List.getElem?_append_left (List.getElem?_eq_some_iff.1 hj).1]
  exact hj
theorem kC_head (k : KY) : (kC k)[0]? = some (.int .u8 (bt k 0 : Int)) := by
  have hl : 0 < k.bs.length := by rw [k.l32]; decide
  simp [kC, hl, bt, u8c]
theorem KD.head {w : World} {b : Nat} {x : KY × EN} (h : Blk w b (kdA x) KDT) : w.cell? ⟨b, 0, none⟩ = some (.int .u8 (bt x.1 0 : Int)) := KD.key h 0 _ (kC_head _)
theorem KB.head {w : World} {b : Nat} {k : KY} (h : KB w b k) : w.cell? ⟨b, 0, none⟩ = some (.int .u8 (bt k 0 : Int)) := h.rng 0 _ (kC_head _)
theorem cmp_hd {a b : KY} (h : bt a 0 < bt b 0) : cmp a b < 0 := by
  refine cmp_head ?_
  obtain ⟨la, ha⟩ := a
  obtain ⟨lb, hb⟩ := b
  cases la with
  | nil => simp at ha
  | cons x xs =>
    cases lb with
    | nil => simp at hb
    | cons y ys => simpa [bt, k0] using h
/-- May a key be told? -/
def okN (aft : KY) (any : Bool) (k : KY) : Prop := any = true ∨ 0 < cmp k aft
/-- The least of those that may be. -/
def Lst (aft : KY) (any : Bool) (S : KY → EN → Prop) : Option (KY × EN) → Prop
  | none => ∀ k e, S k e → ¬ okN aft any k
  | some (k, e) => S k e ∧ okN aft any k ∧ ∀ k' e', S k' e' → okN aft any k' → k' = k ∨ cmp k k' < 0
section
variable {aft : KY} {any : Bool} {S S' : KY → EN → Prop} {fo : Option (KY × EN)} {k : KY} {e : EN}
theorem Lst.congr (h : Lst aft any S fo) (hs : ∀ k e, S k e ↔ S' k e) : Lst aft any S' fo := by
  cases fo with
  | none => exact fun k e hk => h k e ((hs k e).2 hk)
  | some x => exact ⟨(hs _ _).1 h.1, h.2.1, fun k e hk => h.2.2 k e ((hs k e).2 hk)⟩
theorem Lst.no (h : Lst aft any S fo) (hk : ¬ okN aft any k) : Lst aft any (fun a b => S a b ∨ (a, b) = (k, e)) fo := by
  cases fo with
  | none =>
    intro a b hab
    rcases hab with h1 | h1
    · exact h a b h1
    · cases h1; exact hk
  | some x =>
    refine ⟨.inl h.1, h.2.1, fun a b hab hok => ?_⟩
    rcases hab with h1 | h1
    · exact h.2.2 a b h1 hok
    · cases h1; exact absurd hok hk
theorem Lst.skip {l : KY} {m : EN} (h : Lst aft any S (some (l, m))) (hk : ¬ cmp k l < 0) : Lst aft any (fun a b => S a b ∨ (a, b) = (k, e)) (some (l, m)) := by
  refine ⟨.inl h.1, h.2.1, fun a b hab hok => ?_⟩
  rcases hab with h1 | h1
  · exact h.2.2 a b h1 hok
  · cases h1
    rcases cmp_tri k l with g | g | g
    · exact absurd g hk
    · exact .inl g
    · exact .inr g
theorem Lst.first (h : Lst aft any S none) (hk : okN aft any k) : Lst aft any (fun a b => S a b ∨ (a, b) = (k, e)) (some (k, e)) := by
  refine ⟨.inr rfl, hk, fun a b hab hok => ?_⟩
  rcases hab with h1 | h1
  · exact absurd hok (h a b h1)
  · cases h1; exact .inl rfl
theorem Lst.take {l : KY} {m : EN} (h : Lst aft any S (some (l, m))) (hk : okN aft any k) (hl : cmp k l < 0) : Lst aft any (fun a b => S a b ∨ (a, b) = (k, e)) (some (k, e)) := by
  refine ⟨.inr rfl, hk, fun a b hab hok => ?_⟩
  rcases hab with h1 | h1
  · rcases h.2.2 a b h1 hok with g | g
    · subst g; exact .inr hl
    · exact .inr (cmp_trans hl g)
  · cases h1; exact .inl rfl
end
/-- What the tables gone through have. -/
def Seen (f : KY → Option EN) (a i : Nat) : KY → EN → Prop := fun k e => f k = some e ∧ ∃ j, j < i ∧ sh k = (a + j) % 16
theorem Lst.begin (aft : KY) (any : Bool) (f : KY → Option EN) (a : Nat) : Lst aft any (Seen f a 0) none := fun k e h => by
  obtain ⟨_, j, hj, _⟩ := h
  omega
theorem seen_step {f : KY → Option EN} {a i : Nat} {A : List (KY × EN)} (hA : Maps A (gsh f ((a + i) % 16))) (k : KY) (e : EN) : (Seen f a i k e ∨ (k, e) ∈ A) ↔ Seen f a (i + 1) k e := by
  rw [hA.mem]
  unfold gsh Seen
  constructor
  · rintro (⟨h1, j, h2, h3⟩ | h)
    · exact ⟨h1, j, by omega, h3⟩
    · by_cases hs : sh k = (a + i) % 16
      · rw [if_pos hs] at h; exact ⟨h, i, by omega, hs⟩
      · rw [if_neg hs] at h; cases h
  · rintro ⟨h1, j, h2, h3⟩
    by_cases hj : j = i
    · subst hj
      right
      rw [if_pos h3]; exact h1
    · exact .inl ⟨h1, j, by omega, h3⟩
theorem seen_all {f : KY → Option EN} {a : Nat} (k : KY) (e : EN) : Seen f a 16 k e ↔ f k = some e := by
  constructor
  · exact fun h => h.1
  · intro h
    have := sh_lt k
    exact ⟨h, (sh k + 16 - a % 16) % 16, Nat.mod_lt _ (by decide), by omega⟩
/-- The first byte that may be. -/
def frs (aft : KY) (any : Bool) : Nat := if any then 0 else bt aft 0
theorem frs_lt (aft : KY) (any : Bool) : frs aft any < 256 := by
  unfold frs
  split
  · decide
  · exact bt_lt aft 0
theorem Lst.early {aft : KY} {any : Bool} {f : KY → Option EN} {i : Nat} {k : KY} {e : EN} (h : Lst aft any (Seen f (frs aft any) i) (some (k, e))) (hlt : bt k 0 < frs aft any + i) (hi : i ≤ 16) : Lst aft any (fun k e => f k = some e) (some (k, e)) := by
  refine ⟨h.1.1, h.2.1, fun k' e' hf hok => ?_⟩
  by_cases hs : ∃ j, j < i ∧ sh k' = (frs aft any + j) % 16
  · exact h.2.2 k' e' ⟨hf, hs⟩ hok
  · right
    refine cmp_hd ?_
    have hge : frs aft any ≤ bt k' 0 := by
      unfold frs
      split
      · exact Nat.zero_le _
      · rename_i hn
        rcases hok with h1 | h1
        · exact absurd h1 hn
        · rcases Nat.lt_or_ge (bt k' 0) (bt aft 0) with g | g
          · have := cmp_hd g; omega
          · exact g
    have hne : ¬ (bt k' 0 < frs aft any + i) := fun hl => hs ⟨bt k' 0 - frs aft any, by omega, by unfold sh; congr 1; omega⟩
    omega
/-- What is deferred at the loops' ends is taken over, mark by mark. -/
def marks (Ds : List Nat) : List Deferred := Ds.map fun D => { target := .collected D, args := #[] }
theorem leave_marks {F : Fence} {n : Nat} {P : Program} {fn : Func} {tmps : Array Value} {R : Ending → World → Prop} {N : Nat} (w : World) : ∀ (Ds : List Nat) (W : World), Ds.Nodup → (∀ D ∈ Ds, N ≤ D ∧ W.heap[D]? = some (.deferred (some []))) → Below N w W →
    (∀ W', Below N w W' → (∀ k, k ∉ Ds → W'.heap[k]? = W.heap[k]?) → LeavesInM F n P fn tmps R [] .returning W') → LeavesInM F n P fn tmps R (marks Ds) .returning W
  | [], W, _, _, hb, hR => hR W hb (fun _ _ => rfl)
  | D :: Ds, W, hnd, hD, hb, hR => by
    obtain ⟨h1, h2⟩ := hD D (List.mem_cons_self ..)
    refine ⟨by simp, .inl ⟨D, _, rfl, run_takeDeferred h2, ?_⟩⟩
    refine leave_marks w Ds _ (List.nodup_cons.1 hnd).2 (fun D' h' => ?_) (below_put hb D _ h1) (fun W' hb' hs => ?_)
    · obtain ⟨g1, g2⟩ := hD D' (List.mem_cons_of_mem _ h')
      exact ⟨g1, (World.putObj_heap_other (fun e : D' = D => (List.nodup_cons.1 hnd).1 (by rw [← e]; exact h'))).trans g2⟩
    · refine hR W' hb' (fun k hk => ?_)
      exact (hs k (fun h => hk (List.mem_cons_of_mem _ h))).trans (World.putObj_heap_other (fun e : k = D => hk (by rw [e]; exact List.mem_cons_self ..)))
end TX
end Go.Proofs.Ytdigjpddmfolgaa
