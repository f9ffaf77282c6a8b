/- slices.SortFunc over a row of keys. -/
import Derived.Test.YtagnglkkmdeicaaKN3
import Derived.Test.YtagnglkkmdeicaaKN5
import Derived.Test.YtagnglkkmdeicaaKN6
namespace Go.Proofs.Ytagnglkkmdeicaa
set_option linter.unusedVariables false
set_option linter.unusedSimpArgs false
open Go.RowKit Go.Sort Go.Shelf
set_option maxRecDepth 100000

def encK (x : K32) : List Value := x.1.map u8c
theorem encK_len (x : K32) : (encK x).length = 32 := by simp [encK, x.2]
theorem rowK_len (xs : List K32) : (rowK xs).length = xs.length * 32 := by
  induction xs with
  | nil => rfl
  | cons x xs ih =>
    have : rowK (x :: xs) = encK x ++ rowK xs := by simp [rowK, encK]
    rw [this, List.length_append, ih, encK_len, List.length_cons]
    omega
theorem rowK_get [Inhabited K32] (xs : List K32) (t : Nat) (h : t < xs.length * 32) : (rowK xs)[t]? = some ((encK xs[t / 32]!)[t % 32]!) := by
  induction xs generalizing t with
  | nil => simp at h
  | cons x xs ih =>
    have e : rowK (x :: xs) = encK x ++ rowK xs := by simp [rowK, encK]
    rw [e]
    by_cases h2 : t < 32
    · rw [List.getElem?_append_left (by rw [encK_len]; exact h2), Nat.div_eq_of_lt h2, Nat.mod_eq_of_lt h2]
      have hl : t < (encK x).length := by rw [encK_len]; exact h2
      simp [List.getElem?_eq_getElem hl]
    · rw [List.getElem?_append_right (by rw [encK_len]; omega), encK_len, ih (t - 32) (by simp at h; omega)]
      have e1 : t / 32 = (t - 32) / 32 + 1 := by omega
      have e2 : t % 32 = (t - 32) % 32 := by omega
      rw [e1, e2]
      simp
theorem grownBy_sortedK [Inhabited K32] (w : World) (g m : Nat) (d : Array K32) (os : Array Obj) : w.grownBy (sortWorldK encK 32 w g 0 m d os) (some g) := by
  unfold sortWorldK putRowK
  refine ⟨rfl, rfl, rfl, by simp [grow], fun k hk hne => ?_⟩
  have h1 : k ≠ g := fun e => hne (by rw [e])
  simp only [grow]
  rw [Array.getElem?_append_left (by simpa using hk)]
  simp [putRow, mapBlock, Sort.ahead, Array.getElem?_modify, Ne.symm h1]
/-- Keys that rise, each once. -/
def Rising (ks : List (List UInt8)) : Prop := ks.Pairwise (fun a b => cmpK a b < 0)
/-- What a sorted row of a set's keys is. -/
structure SrtC (w : World) (S : List (List UInt8)) (v : Value) (W : World) : Prop where
  row : ∃ (ao : Option Addr) (cap : Nat) (ks : List (List UInt8)), v = .slice ao ks.length cap ∧ KRow W ao ks ∧ Rising ks ∧ ∀ x : List UInt8, x ∈ ks ↔ (x.length = 32 ∧ x ∈ S)
  bel : Below w.heap.size w W
  fr : ∀ (a : Addr) (n c : Nat), v = .slice (some a) n c → w.heap.size ≤ a.block
theorem enterCmp : ∀ args w, (callFunc 47 args).run Try.prog w = .ok (.enter 47 args) w := enters_of Try.func47 (by kernel_rfl) rfl
theorem isAggK (w : World) : (isAgg 30).run Try.prog w = .ok true w := by kernel_rfl
theorem sizeOfK (w : World) : (Go.sizeOf 30).run Try.prog w = .ok 32 w := by kernel_rfl
theorem keyV_enc (x : K32) : Value.agg (encK x).toArray = keyV x.1 := rfl
theorem sort_any (w : World) (base : Nat) (v : Value) (xs : List K32) (S : List (List UInt8)) (hxs : kyS S xs) (hbase : base ≤ w.heap.size) (ho : w.ownsRow base 30 32 v xs.length (rowK xs)) (h0 : 0 < xs.length) (hn : xs.length < 4611686018427387904) :
    Calls Try.prog 55 #[v, .func (.func 47) #[] #[]] w fun e W => e = .returned (.tuple #[]) ∧ (∃ (ao : Option Addr) (cap : Nat) (ks : List (List UInt8)), v = .slice ao ks.length cap ∧ KRow W ao ks ∧ Rising ks ∧ ∀ x : List UInt8, x ∈ ks ↔ (x.length = 32 ∧ x ∈ S)) ∧ Below base w W := by
  haveI : Inhabited K32 := ⟨⟨List.replicate 32 0, by simp⟩⟩
  obtain ⟨hl, ⟨_, h1⟩ | ⟨g, cap, cur, rfl, hg, hh, hcap, hmax, hcs, ht⟩⟩ := ho
  · omega
  have hglt : g < w.heap.size := (Array.getElem?_eq_some_iff.1 hh).1
  have hB : Blk w g cur 30 := hh
  have hH : HoldsK encK 32 w g 0 xs.toArray := by
    intro j hj
    have hj' : j < xs.length * 32 := by simpa using hj
    refine ⟨?_, hB.frozen _⟩
    rw [Nat.zero_add, hB.cell, get_flatK _ _ _ _ (by simpa using hj')]
    have h2 := rowK_get xs j hj'
    rw [← ht, List.getElem?_take_of_lt hj', Array.getElem?_toList] at h2
    rw [h2]
    simp
  have hcmp : CmpLays Try.prog 47 #[] encK 32 (fun x y : K32 => cmpK x.1 y.1) g 0 xs.toArray.size w := by
    intro m os dk _ x y
    have := compare_grown x.1 y.1 x.2 y.2 (sortWorldK encK 32 w g 0 m dk os)
    rw [← keyV_enc, ← keyV_enc] at this
    exact this
  have hsort := AnyQ.slices_SortFunc laysSF 32 isAggK sizeOfK encK encK_len (fun x v hv => u8c_one x.1 v hv) (fun x y : K32 => cmpK x.1 y.1) cmpSWO 47 #[] g 0 cap xs.toArray w enterCmp hcmp hH hglt (by simpa using hn)
  have hsz : xs.toArray.size = xs.length := by simp
  rw [hsz] at hsort
  refine Calls.mono hsort ?_
  rintro e W ⟨he, d', n, os, hp, hs, rfl⟩
  obtain ⟨hp1, _, hp3⟩ := hp
  have hp1' : d'.size = xs.length := by rw [hp1]; simp
  have hperm : d'.toList.Perm xs := by
    have h3 : (d'.toList.take xs.length).Perm (xs.take xs.length) := by simpa using hp3
    rw [List.take_length, List.take_of_length_le (by simp [hp1'])] at h3
    exact h3
  have hnd : d'.toList.Nodup := hperm.nodup_iff.2 hxs.1
  have hH2 := holdsK_sortWorldK_c encK 32 w g 0 xs.toArray d' n os hH hglt (by rw [hp1'];  simp)
  refine ⟨he, ⟨some ⟨g, 0, none⟩, cap, d'.toList.map Subtype.val, by simp [hp1'], ⟨fun i hi => ?_, fun k hk => ?_⟩, ?_, fun x => ?_⟩, below_grownBy (grownBy_sortedK w g n d' os) hg hbase⟩
  · have hi' : i < d'.size := by simpa using hi
    refine ⟨g, 0, rfl, fun c u hu => ?_⟩
    have hc : c < 32 := by
      have := (List.getElem?_eq_some_iff.1 hu).1
      simp at this
      rw [(d'[i]'hi').2] at this
      exact this
    have h2 := (hH2.cell hi' hc).1
    rw [Nat.zero_add] at h2 ⊢
    rw [h2]
    have e1 : (encK d'[i]!)[c]! = u := by
      have e3 : d'[i]! = d'[i]'hi' := getElem!_pos d' i hi'
      rw [e3]
      have hu2 : (encK (d'[i]'hi'))[c]? = some u := by simpa [encK] using hu
      have hl3 := (List.getElem?_eq_some_iff.1 hu2)
      obtain ⟨hl4, e4⟩ := hl3
      rw [getElem!_pos _ c hl4, e4]
    rw [e1]
  · obtain ⟨q, _, rfl⟩ := List.mem_map.1 hk
    exact q.2
  · unfold Rising
    rw [List.pairwise_map, List.pairwise_iff_getElem]
    intro i j hi hj hij
    have hi' : i < d'.size := by simpa using hi
    have hj' : j < d'.size := by simpa using hj
    have h2 := hs i j (Nat.zero_le _) hij (by rw [← hp1']; exact hj')
    have e1 : d'[i]! = d'[i]'hi' := getElem!_pos d' i hi'
    have e2 : d'[j]! = d'[j]'hj' := getElem!_pos d' j hj'
    rw [e1, e2] at h2
    unfold ltOf at h2
    have h3 : ¬ cmpK (d'[j]'hj').1 (d'[i]'hi').1 < 0 := by simpa using h2
    have h4 := cmpK_neg (d'[i]'hi').1 (d'[j]'hj').1
    simp only [Array.getElem_toList]
    rcases cmpK_range (d'[i]'hi').1 (d'[j]'hj').1 with e | e | e
    · omega
    · exfalso
      have e5 := Subtype.ext (cmpK_zero _ _ e)
      have := (List.pairwise_iff_getElem.1 hnd) i j hi hj hij
      apply this
      simp only [Array.getElem_toList]
      exact e5
    · omega
  · constructor
    · intro hx
      obtain ⟨q, hq, rfl⟩ := List.mem_map.1 hx
      exact ⟨q.2, (hxs.2 q).1 (hperm.mem_iff.1 hq)⟩
    · rintro ⟨h1, h2⟩
      exact List.mem_map.2 ⟨⟨x, h1⟩, hperm.mem_iff.2 ((hxs.2 ⟨x, h1⟩).2 h2), rfl⟩
end Go.Proofs.Ytagnglkkmdeicaa
