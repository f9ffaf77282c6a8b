/- slices.SortFunc over a row of keys. -/
import Derived.Test.YtnloglecfbhpcaaKN3
import Derived.Test.YtnloglecfbhpcaaKN5
import Derived.Test.YtnloglecfbhpcaaKN6
namespace Go.Proofs.Ytnloglecfbhpcaa
set_option linter.unusedVariables false
set_option linter.unusedSimpArgs false
open Go.RowKit Go.Sort Go.Shelf
set_option maxRecDepth 100000

def encK (x : K32) : List Value := x.1.map u8c
theorem encK_len (x : K32) : (encK x).length = 32 := by simp [encK, x.2]
theorem rowK_len (xs : List K32) : (rowK xs).length = xs.length * 32 := by
  induction xs with
  | nil => rfl
  | cons x xs ih =>
    have : rowK (x :: xs) = encK x ++ rowK xs := by simp [rowK, encK]
    rw [this, List.length_append, ih, encK_len, List.length_cons]
    omega
theorem rowK_get [Inhabited K32] (xs : List K32) (t : Nat) (h : t < xs.length * 32) : (rowK xs)[t]? = some ((encK xs[t / 32]!)[t % 32]!) := by
  induction xs generalizing t with
  | nil => simp at h
  | cons x xs ih =>
    have e : rowK (x :: xs) = encK x ++ rowK xs := by simp [rowK, encK]
    rw [e]
    by_cases h2 : t < 32
    · rw [List.getElem?_append_left (by rw [encK_len]; exact h2), Nat.div_eq_of_lt h2, Nat.mod_eq_of_lt h2]
      have hl : t < (encK x).length := by rw [encK_len]; exact h2
      simp [List.getElem?_eq_getElem hl]
    · rw [List.getElem?_append_right (by rw [encK_len]; omega), encK_len, ih (t - 32) (by simp at h; omega)]
      have e1 : t / 32 = (t - 32) / 32 + 1 := by omega
      have e2 : t % 32 = (t - 32) % 32 := by omega
      rw [e1, e2]
      simp
theorem grownBy_sortedK [Inhabited K32] (w : World) (g m : Nat) (d : Array K32) (os : Array Obj) : w.grownBy (sortWorldK encK 32 w g 0 m d os) (some g) := by
  unfold sortWorldK putRowK
  refine ⟨rfl, rfl, rfl, by simp [grow], fun k hk hne => ?_⟩
  have h1 : k ≠ g := fun e => hne (by rw [e])
  simp only [grow]
  rw [Array.getElem?_append_left (by simpa using hk)]
  simp [putRow, mapBlock, Sort.ahead, Array.getElem?_modify, Ne.symm h1]
/-- Keys that rise, each once. -/
def Rising (ks : List (List UInt8)) : Prop := ks.Pairwise (fun a b => cmpK a b < 0)
/-- What a sorted row of a set's keys is. -/
structure SrtC (w : World) (S : List (List UInt8)) (v : Value) (W : World) : Prop where
  row : ∃ (ao : Option Addr) (cap : Nat) (ks : List (List UInt8)), v = .slice ao ks.length cap ∧ KRow W ao ks ∧ Rising ks ∧ ∀ x : List UInt8, x ∈ ks ↔ (x.length = 32 ∧ x ∈ S)
  bel : Below w.heap.size w W
  fr : ∀ (a : Addr) (n c : Nat), v = .slice (some a) n c → w.heap.size ≤ a.block
theorem enterCmp : ∀ args w, (callFunc 39 args).run Try.prog w = .ok (.enter 39 args) w := enters_of Try.func39 (by kernel_rfl) rfl
theorem isAggK (w : World) : (isAgg 38).run Try.prog w = .ok true w := by kernel_rfl
theorem sizeOfK (w : World) : (Go.sizeOf 38).run Try.prog w = .ok 32 w := by kernel_rfl
theorem keyV_enc (x : K32) : Value.agg (encK x).toArray = keyV x.1 := rfl
theorem sort_any (w : World) (base : Nat) (v : Value) (xs : List K32) (S : List (List UInt8)) (hxs : kyS S xs) (hbase : base ≤ w.heap.size) (ho : w.ownsRow base 38 32 v xs.length (rowK xs)) (h0 : 0 < xs.length) (hn : xs.length < 4611686018427387904) :
    Calls Try.prog 51 #[v, .func (.func 39) #[] #[]] w fun e W => e = .returned (.tuple #[]) ∧ (∃ (ao : Option Addr) (cap : Nat) (ks : List (List UInt8)), v = .slice ao ks.length cap ∧ KRow W ao ks ∧ Rising ks ∧ ∀ x : List UInt8, x ∈ ks ↔ (x.length = 32 ∧ x ∈ S)) ∧ Below base w W := by
  haveI : Inhabited K32 := ⟨⟨List.replicate 32 0, by simp⟩⟩
  obtain ⟨hl, ⟨_, h1⟩ | ⟨g, cap, cur, rfl, hg, hh, hcap, hmax, hcs, ht⟩⟩ := ho
  · omega
  have hglt : g < w.heap.size := (Array.getElem?_eq_some_iff.1 hh).1
  have hB : Blk w g cur 38 := hh
  have hH : HoldsK encK 32 w g 0 xs.toArray := by
    intro j hj
    have hj' : j < xs.length * 32 := by simpa using hj
    refine ⟨?_, hB.frozen _⟩
    rw [Nat.zero_add, hB.cell, get_flatK _ _ _ _ (by simpa using hj')]
    have h2 := rowK_get xs j hj'
    rw [← ht, List.getElem?_take_of_lt hj', Array.getElem?_toList] at h2
    rw [h2]
    simp
  have hcmp : CmpLays Try.prog 39 #[] encK 32 (fun x y : K32 => cmpK x.1 y.1) g 0 xs.toArray.size w := by
    intro m os dk _ x y
    have := compare_grown x.1 y.1 x.2 y.2 (sortWorldK encK 32 w g 0 m dk os)
    rw [← keyV_enc, ← keyV_enc] at this
    exact this
  have hsort := AnyQ.slices_SortFunc laysSF 32 isAggK sizeOfK encK encK_len (fun x v hv => u8c_one x.1 v hv) (fun x y : K32 => cmpK x.1 y.1) cmpSWO 39 #[] g 0 cap xs.toArray w enterCmp hcmp hH hglt (by simpa using hn)
  have hsz : xs.toArray.size = xs.length := by simp
  rw [hsz] at hsort
  refine Calls.mono hsort ?_
  rintro e W ⟨he, d', n, os, hp, hs, rfl⟩
  obtain ⟨hp1, _, hp3⟩ := hp
  have hp1' : d'.size = xs.length := by rw [hp1]; simp
  have hperm : d'.toList.Perm xs := by
    have h3 : (d'.toList.take xs.length).Perm (xs.take xs.length) := by simpa using hp3
    rw [List.take_length, List.take_of_length_le (by simp [hp1'])] at h3
    exact h3
  have hnd : d'.toList.Nodup := hperm.nodup_iff.2 hxs.1
  have hH2 := holdsK_sortWorldK_c encK 32 w g 0 xs.toArray d' n os hH hglt (by rw [hp1'];  simp)
  refine ⟨he, ⟨some ⟨g, 0, none⟩, cap, d'.toList.map Subtype.val, by simp [hp1'], ⟨fun i hi => ?_, fun k hk => ?_⟩, ?_, fun x => ?_⟩, below_grownBy (grownBy_sortedK w g n d' os) hg hbase⟩
  · have hi' : i < d'.size := by simpa using hi
    refine ⟨g, 0, rfl, fun c u hu => ?_⟩
    have hc : c < 32 := by
      have := (List.getElem?_eq_some_iff.1 hu).1
      simp at this
      rw [(d'[i]'hi').2] at this
      exact this
    have h2 := (hH2.cell hi' hc).1
    rw [Nat.zero_add] at h2 ⊢
    rw [h2]
    have e1 : (encK d'[i]!)[c]! = u := by
      have e3 : d'[i]! = d'[i]'hi' := getElem!_pos d' i hi'
      rw [e3]
      have hu2 : (encK (d'[i]'hi'))[c]? = some u := by simpa [encK] using hu
      have hl3 := (List.getElem?_eq_some_iff.1 hu2)
      obtain ⟨hl4, e4⟩ := hl3
      rw [getElem!_pos _ c hl4, e4]
    rw [e1]
  · obtain ⟨q, _, rfl⟩ := List.mem_map.1 hk
    exact q.2
  · unfold Rising
    rw [List.pairwise_map, List.pairwise_iff_getElem]
    intro i j hi hj hij
    have hi' : i < d'.size := by simpa using hi
    have hj' : j < d'.size := by simpa using hj
    have h2 := hs i j (Nat.zero_le _) hij (by rw [← hp1']; exact hj')
    have e1 : d'[i]! = d'[i]'hi' := getElem!_pos d' i hi'
    have e2 : d'[j]! = d'[j]'hj' := getElem!_pos d' j hj'
    rw [e1, e2] at h2
    unfold ltOf at h2
    have h3 : ¬ cmpK (d'[j]'hj').1 (d'[i]'hi').1 < 0 := by simpa using h2
    have h4 := cmpK_neg (d'[i]'hi').1 (d'[j]'hj').1
    simp only [Array.getElem_toList]
    rcases cmpK_range (d'[i]'hi').1 (d'[j]'hj').1 with e | e | e
    · omega
    · exfalso
      have e5 := Subtype.ext (cmpK_zero _ _ e)
      have := (List.pairwise_iff_getElem.1 hnd) i j hi hj hij
      apply this
      simp only [Array.getElem_toList]
      exact e5
    · omega
  · constructor
    · intro hx
      obtain ⟨q, hq, rfl⟩ := List.mem_map.1 hx
      exact ⟨q.2, (hxs.2 q).1 (hperm.mem_iff.1 hq)⟩
    · rintro ⟨h1, h2⟩
      exact List.mem_map.2 ⟨⟨x, h1⟩, hperm.mem_iff.2 ((hxs.2 ⟨x, h1⟩).2 h2), rfl⟩
end Go.Proofs.Ytnloglecfbhpcaa

/- slices.SortedFunc and rising. -/
namespace Go.Proofs.Ytnloglecfbhpcaa
set_option linter.unusedVariables false
set_option linter.unusedSimpArgs false
open Go.RowKit Go.Sort Go.Shelf
set_option maxRecDepth 100000

def cmpF : Value := .func (.func 39) #[] #[]
theorem ins_none (p : Option Addr) (cap : Nat) (w : World) : Calls Try.prog 59 #[.slice p 0 cap, .int .i64 0, .int .i64 0, cmpF] w fun e w' => e = .returned (.tuple #[]) ∧ w' = w := by
  unfold cmpF
  go_enter Try.func59, Try.ntmps59
  go_wp2
  go_loopw [8] (fun t wr => t = .int .i64 1 ∧ wr = w) (fun _ _ => 0)
  case atStart => exact ⟨rfl, rfl⟩
  case round =>
    obtain ⟨rfl, rfl⟩ := hrel
    go_wp2
    go_end0
    exact ⟨rfl, rfl⟩
theorem pdq_none (p : Option Addr) (cap : Nat) (lim : Int) (w : World) : Calls Try.prog 56 #[.slice p 0 cap, .int .i64 0, .int .i64 0, .int .i64 lim, cmpF] w fun e w' => e = .returned (.tuple #[]) ∧ w' = w := by
  have HI := hide (ins_none p cap)
  unfold cmpF at *
  go_enter Try.func56, Try.ntmps56
  go_upto_region 2 with fail
  go_loopw [1, 2] (fun x y wr => x = .int .i64 0 ∧ y = .int .i64 0 ∧ wr = w) (fun _ _ _ => 0)
  case atStart => exact ⟨rfl, rfl, rfl⟩
  case round =>
    obtain ⟨rfl, rfl, rfl⟩ := hrel
    go_wp2_with (go_at_call 59; refine (HI.out _).mono ?_; rintro e w1 ⟨rfl, hw⟩; rw [hw]; clear hw)
    refine bodyPost_ret (results_noneK rfl _ _) rfl ?_
    exact ⟨rfl, rfl⟩
theorem sortFunc_none (p : Option Addr) (cap : Nat) (w : World) : Calls Try.prog 51 #[.slice p 0 cap, cmpF] w fun e w' => e = .returned (.tuple #[]) ∧ w' = w := by
  have HP := hide (fun lim => pdq_none p cap lim)
  have HL : Hid (∀ W, Calls Try.prog 57 #[.int .u64 0] W fun e w' => e = .returned (.int .i64 (Lib.bitLen 0 : Nat)) ∧ w' = W) := hide (fun W => Any.bits_Len (SlLaysF0.n15.bits (P := Try.prog) (ρ := laysSF_ren) { laysSF with }) 0 W (by omega) (by omega))
  unfold cmpF at *
  go_enter Try.func51, Try.ntmps51
  go_wp2_with (first | (go_at_call 57; refine (HL.out _).mono ?_; rintro e w1 ⟨rfl, hw⟩; rw [hw]; clear hw) | (go_at_call 56; refine (HP.out _ _).mono ?_; rintro e w1 ⟨rfl, hw⟩; rw [hw]; clear hw))
  go_end0
  exact ⟨rfl, rfl⟩
theorem sort_any0 (w : World) (base : Nat) (v : Value) (xs : List K32) (S : List (List UInt8)) (hxs : kyS S xs) (hbase : base ≤ w.heap.size) (ho : w.ownsRow base 38 32 v xs.length (rowK xs)) (hn : xs.length < 4611686018427387904) :
    Calls Try.prog 51 #[v, cmpF] w fun e W => e = .returned (.tuple #[]) ∧ (∃ (ao : Option Addr) (cap : Nat) (ks : List (List UInt8)), v = .slice ao ks.length cap ∧ KRow W ao ks ∧ Rising ks ∧ ∀ x : List UInt8, x ∈ ks ↔ (x.length = 32 ∧ x ∈ S)) ∧ Below base w W := by
  rcases Nat.eq_zero_or_pos xs.length with h0 | h0
  · obtain ⟨ao, cap, rfl⟩ := own_formK ho
    rw [h0]
    refine Calls.mono (sortFunc_none ao cap w) ?_
    rintro e W ⟨he, rfl⟩
    obtain rfl := List.eq_nil_of_length_eq_zero h0
    refine ⟨he, ⟨ao, cap, [], rfl, ⟨fun i hi => absurd hi (Nat.not_lt_zero _), fun k hk => (by cases hk)⟩, List.Pairwise.nil, fun x => ⟨fun h => (by cases h), fun h => ?_⟩⟩, Below.refl _ _⟩
    have := (hxs.2 ⟨x, h.1⟩).2 h.2
    cases this
  · exact sort_any w base v xs S hxs hbase ho h0 hn
theorem kyS_len {S : List (List UInt8)} {xs : List K32} (h : kyS S xs) : xs.length ≤ S.length := by
  have h1 : (xs.map Subtype.val).length ≤ S.length := List.Nodup.length_le_of_subset (List.Pairwise.map Subtype.val (fun a b h e => h (Subtype.ext e)) h.1) (fun y hy => by
    obtain ⟨q, hq, rfl⟩ := List.mem_map.1 hy
    exact (h.2 q).1 hq)
  simpa using h1
theorem own_from {w : World} {B s n : Nat} {e : TypeId} {v : Value} {ys : List Value} (h : w.ownsRow B e s v n ys) : ∀ (a : Addr) (m c : Nat), v = .slice (some a) m c → B ≤ a.block := fun a m c hv => by
  obtain ⟨h0, ⟨h1, h2⟩ | ⟨g, cap, cur, h1, hb, hh, hx⟩⟩ := h
  · rw [h1] at hv; cases hv
  · rw [h1] at hv; cases hv; exact hb
theorem sortedFunc_any (w : World) (b bm : Nat) (S : List (List UInt8)) (hS : KSet w b S) (hb : Blk w bm #[.map (some b)] 53) (hn : S.length ≤ 4398046510976) : Calls Try.prog 46 #[keF bm, cmpF] w fun e W => ∃ v, e = .returned v ∧ SrtC w S v W := by
  have HC := hide (collect_any w b bm S hS hb hn)
  have HS : Hid (∀ W v xs, kyS S xs → W.ownsRow w.heap.size 38 32 v xs.length (rowK xs) → Below w.heap.size w W → Calls Try.prog 51 #[v, cmpF] W fun e W2 => e = .returned (.tuple #[]) ∧ SrtC w S v W2) := hide (fun W v xs h1 h2 h3 => (sort_any0 W w.heap.size v xs S h1 h3.size h2 (by have := kyS_len h1; omega)).mono (fun e W2 h => ⟨h.1, h.2.1, h3.trans h.2.2, own_from h2⟩))
  clear hS hb
  unfold keF cmpF at *
  go_enter Try.func46, Try.ntmps46
  go_upto_region 2 with (go_at_call 50; refine HC.out.mono ?_; rintro e w1 ⟨v, xs, rfl, h1, h2, h3⟩; have HS1 := hide (HS.out w1 v xs h1 h2 h3); obtain ⟨ao, cap, hf⟩ := own_formK h2; subst hf; clear h1 h2 h3)
  clear HC HS
  go_wp2_with (go_at_call 51; refine HS1.out.mono ?_; rintro e w2 ⟨rfl, h4⟩; have H4 := hide h4; clear h4)
  go_ret
  exact ⟨_, rfl, H4.out⟩
theorem rising_any (w : World) (z b : Nat) (S : List (List UInt8)) (h : SetAt w z b S) (hn : S.length ≤ 4398046510976) : Calls Try.prog 35 #[.pointer (some ⟨z, 0, none⟩)] w fun e W => ∃ v, e = .returned v ∧ SrtC w S v W := by
  have c0 : w.cell? ⟨z, 0, none⟩ = some (.map (some b)) := by rw [h.blk.cell]; rfl
  have l0 := h.blk.lt
  have bA : Below w.heap.size w (w.alloc (.cells #[.map (some b)] 53)) := (Below.refl _ _).alloc (Nat.le_refl _) _
  have HK : Hid (Calls Try.prog 47 #[.map (some b)] w fun e W => e = .returned (keF w.heap.size) ∧ W = w.alloc (.cells #[.map (some b)] 53)) := hide (by
    unfold keF
    go_enter Try.func47, Try.ntmps47
    go_wp2
    go_ret
    exact ⟨rfl, rfl⟩)
  have HS := hide ((sortedFunc_any (w.alloc (.cells #[.map (some b)] 53)) b w.heap.size S (h.set.below bA) (Blk.made w _ _) hn).mono (fun e W h2 => by
    obtain ⟨v, he, hs⟩ := h2
    exact (⟨v, he, hs.row, bA.trans (hs.bel.mono bA.size), fun a n c e => Nat.le_trans bA.size (hs.fr a n c e)⟩ : ∃ v, e = .returned v ∧ SrtC w S v W)))
  clear h bA
  unfold keF cmpF at *
  go_enter Try.func35, Try.ntmps35
  go_wp2_with (first | (go_at_call 47; refine HK.out.mono ?_; rintro e w1 ⟨rfl, hw⟩; rw [hw]; clear hw) | (go_at_call 46; refine HS.out.mono ?_; rintro e w2 ⟨v, rfl, h4⟩; have H4 := hide h4; obtain ⟨ao, cap, ks, hv, _⟩ := h4.row; subst hv; clear h4))
  go_ret
  exact ⟨_, rfl, H4.out⟩
end Go.Proofs.Ytnloglecfbhpcaa

/- The iterator of All: what it tells, whatever its rounds do. -/
namespace Go.Proofs.Ytnloglecfbhpcaa
set_option linter.unusedVariables false
set_option linter.unusedSimpArgs false
open Go.RowKit Go.Shelf
set_option maxRecDepth 100000
attribute [local go_sem] Oper.semAt_some

/-- A row of cells stays as it is. -/
structure KeepR (g : Nat) (W W' : World) : Prop where
  size : W.heap.size ≤ W'.heap.size
  same : ∀ (cs : Array Value) (t : TypeId) (fz : Nat × Nat), W.heap[g]? = some (.cells cs t fz) → W'.heap[g]? = W.heap[g]?
theorem KeepR.trans {g : Nat} {A B C : World} (h : KeepR g A B) (k : KeepR g B C) : KeepR g A C := ⟨Nat.le_trans h.size k.size, fun cs t fz h1 => (k.same cs t fz ((h.same cs t fz h1).trans h1)).trans (h.same cs t fz h1)⟩
theorem KeepR.below {g : Nat} {A B : World} (h : Below A.heap.size A B) : KeepR g A B := ⟨h.size, fun _ _ _ h1 => h.block g (Array.getElem?_eq_some_iff.1 h1).1⟩
theorem KeepR.keeping (g : Nat) : Keeping (KeepR g) := ⟨fun _ _ _ h k => h.trans k, fun W l q o' h => ⟨by simp, fun cs t fz h1 => by
  by_cases e : g = l
  · rw [e, h] at h1; cases h1
  · exact World.putObj_heap_other e⟩⟩
theorem KeepR.grown {g : Nat} {A B : World} {row : Option Nat} (h : A.grownBy B row) (hr : row ≠ some g) : KeepR g A B := ⟨h.size, fun cs t fz h1 => h.block g (Array.getElem?_eq_some_iff.1 h1).1 (fun e => hr e.symm)⟩
def gOf : Option Addr → Nat
  | some a => a.block
  | none => 0
theorem KRow.keepR {W W' : World} {ao : Option Addr} {ks : List (List UInt8)} (h : KRow W ao ks) (k : KeepR (gOf ao) W W') : KRow W' ao ks := by
  refine ⟨fun i hi => ?_, h.len⟩
  obtain ⟨g, o, rfl, hr⟩ := h.at' i hi
  refine ⟨g, o, rfl, fun j v hj => ?_⟩
  have hc := hr j v hj
  have hb : W'.heap[g]? = W.heap[g]? := by
    cases ho : W.heap[g]? with
    | none => unfold World.cell? at hc; rw [ho] at hc; simp at hc
    | some ob =>
      cases ob with
      | cells cs t fz => rw [← ho]; exact k.same cs t fz ho
      | _ => unfold World.cell? at hc; rw [ho] at hc; simp at hc
  exact (by unfold World.cell? at hc ⊢; rw [hb]; exact hc)
def riS (ks : List (List UInt8)) (xs : List K32) : Prop := xs.map Subtype.val = ks
def riFit (ks : List (List UInt8)) (pre : List K32) (x : K32) (_ _ : World) : Prop := ((pre ++ [x]).map Subtype.val) <+: ks
def riF (bx : Nat) : Value := .func (.func 36) #[] #[.pointer (some ⟨bx, 0, none⟩)]
set_option maxHeartbeats 4000000 in
theorem rising_fit (n : Nat) (w : World) (bx : Nat) (ao : Option Addr) (cap : Nat) (ks : List (List UInt8)) (hb : Blk w bx #[.slice ao ks.length cap] 39) (hk : KRow w ao ks) (hn : ks.length ≤ 4398046511104) :
    SeqKp Fence.wide n Try.prog 36 #[.pointer (some ⟨bx, 0, none⟩)] keV (KeepR (gOf ao)) (riS ks) (riFit ks) w := by
  intro l J Jx W hW hJ hJx hY h0
  refine callsIn_of_wp Try.func36 rfl trivial ?_ rfl
  simp only [Try.ntmps36, List.size_toArray, List.length_cons, List.length_nil, Nat.reduceAdd, Nat.reduceSub, Array.replicate_succ, Array.replicate_zero, List.push_toArray, List.append_toArray, List.nil_append, List.cons_append]
  obtain ⟨m, hm⟩ : ∃ m, m = ks.length := ⟨_, rfl⟩
  rw [← hm] at hb hn
  have hB := hb.below hW hb.lt
  have cb : W.cell? ⟨bx, 0, none⟩ = some (.slice ao m cap) := by rw [hB.cell]; rfl
  have hbl := hB.lt
  have HK := hide (hk.below hW)
  have HY := hide hY
  have HJ := hide hJ
  have HJ0 := hide h0
  have HM := hide hm
  clear hY hJ hJx hW h0 hb hk hB hm
  gi_wp2
  gi_loopw [7] (fun t wr => ∃ (i : Nat) (pre : List K32), t = .int .i64 i ∧ i ≤ m ∧ pre.map Subtype.val = ks.take i ∧ J pre wr ∧ KRow wr ao ks) (fun t _ => m - (intOf t).toNat)
  case atStart => exact ⟨0, [], rfl, Nat.zero_le _, rfl, HJ0.out, HK.out⟩
  case round =>
    clear HJ0 HK cb hbl
    obtain ⟨i, pre, rfl, hi, hpre, hJp, hkr⟩ := hrel
    have HJp := hide hJp
    have HKR := hide hkr
    have HP := hide hpre
    clear hJp hpre
    by_cases hlt : i < m
    · have hji : (i : Int) < (m : Int) := by omega
      have hil : i < ks.length := by rw [← HM.out]; exact hlt
      obtain ⟨g, o, rfl, hr⟩ := hkr.at' i hil
      obtain ⟨x, hx⟩ : ∃ x, x = ks[i] := ⟨_, rfl⟩
      have hx32 : x.length = 32 := by rw [hx]; exact hkr.len _ (List.getElem_mem _)
      rw [← hx] at hr
      have hgl : g < wr.heap.size := by
        have := hr 0 (u8c (x.headD 0)) (by cases x with | nil => simp at hx32 | cons a r => rfl)
        exact World.block_lt_of_cell? wr _ this
      have HRA := hide hr
      have HX := hide hx32
      have HT : Hid (ks.take (i + 1) = ks.take i ++ [x]) := hide (by rw [List.take_add_one, List.getElem?_eq_getElem hil, hx]; rfl)
      have HFit : Hid (riFit ks pre ⟨x, hx32⟩ wr wr) := hide (by
        unfold riFit
        rw [List.map_append, HP.out]
        show ks.take i ++ [x] <+: ks
        rw [← HT.out]
        exact List.take_prefix _ _)
      clear hkr hr hx
      gi_upto_region 2 with fail
      refine wpIn_wide.2 ?_
      go_wp2_with (first | ((with_reducible refine wpList_load_keyAt (.tmp 9) g (o + i * 32) x HX.out HRA.out ?_ ?_ ?_ ?_); rfl; rfl; rfl) | ((with_reducible refine wpList_put_key ?_ (.tmp 4) (.tmp 10) ?_ wr.heap.size ?_ wr ?_ ?_ x HX.out ?_ ?_); rfl; rfl; rfl; rfl; rfl; rfl; intro w2 HK2 hb2; have HJ3 := hide (ownFrom_bel HJ.out HJp.out hb2); have HKR2 := hide (HKR.out.below hb2); clear hb2))
      obtain ⟨fn, tmps, assign, bod, hy, hR⟩ := HY.out pre ⟨x, hx32⟩ w2 w2 HJ3.out (Below.refl _ _) HFit.out
      unfold keV at hy
      dsimp only at hy
      have HR := hide hR
      clear hR
      simp only [Act.put]
      gi_wp2_with ((with_reducible refine wpListIn_keyK (.tmp 4) wr.heap.size x HK2.out ?_ ?_ ?_ ?_); rfl; rfl; rfl)
      refine ⟨fun h => (by cases h), ?_⟩
      refine HR.out.mono ?_
      rintro e W3 (⟨rfl, hJ4, hk4⟩ | ⟨rfl, hJx4⟩)
      · have HJ4 := hide hJ4
        have HK4 := hide (HKR2.out.keepR hk4)
        clear hJ4 hk4 HR hy
        gi_wp2
        go_roundw
        case rel => exact ⟨i + 1, pre ++ [⟨x, hx32⟩], by go_num, by omega, by rw [List.map_append, HP.out, HT.out]; rfl, HJ4.out, HK4.out⟩
        case measure => simp [intOf]; omega
      · have HX4 := hide hJx4
        clear hJx4 HR hy
        gi_wp2
        refine bodyPost_ret (results_noneK rfl _ _) rfl ?_
        exact ⟨⟨_, rfl⟩, .inr ⟨_, HX4.out⟩⟩
    · have hji : ¬ (i : Int) < (m : Int) := by omega
      have HE : Hid (riS ks pre) := hide (by
        unfold riS
        rw [HP.out, List.take_of_length_le (by rw [← HM.out]; omega)])
      clear hkr
      gi_wp2
      refine bodyPost_end (results_noneK rfl _ _) rfl ?_
      exact ⟨⟨_, rfl⟩, .inl ⟨pre, HE.out, HJp.out⟩⟩
end Go.Proofs.Ytnloglecfbhpcaa

/- All. -/
namespace Go.Proofs.Ytnloglecfbhpcaa
set_option linter.unusedVariables false
set_option linter.unusedSimpArgs false
open Go.RowKit
set_option maxRecDepth 100000

/-- What All answers: an iterator over the keys of now, rising. -/
def AllC (w : World) (S : List (List UInt8)) (e : Ending) (W : World) : Prop := ∃ bx ao cap ks, e = .returned (riF bx) ∧ Blk W bx #[.slice ao ks.length cap] 39 ∧ KRow W ao ks ∧ Rising ks ∧ (∀ x : List UInt8, x ∈ ks ↔ (x.length = 32 ∧ x ∈ S)) ∧ (w.heap.size ≤ bx ∧ ∀ a : Addr, ao = some a → w.heap.size ≤ a.block) ∧ Below w.heap.size w W
theorem allC_of {w W : World} {S : List (List UInt8)} {ao : Option Addr} {cap : Nat} {ks : List (List UInt8)} (h1 : KRow W ao ks) (h2 : Rising ks) (h3 : ∀ x : List UInt8, x ∈ ks ↔ (x.length = 32 ∧ x ∈ S)) (h4 : Below w.heap.size w W) (h5 : ∀ a : Addr, ao = some a → w.heap.size ≤ a.block) : AllC w S (.returned (riF W.heap.size)) (W.alloc (.cells #[.slice ao ks.length cap] 39)) := by
  have bA : Below W.heap.size W (W.alloc (.cells #[.slice ao ks.length cap] 39)) := (Below.refl _ _).alloc (Nat.le_refl _) _
  exact ⟨W.heap.size, ao, cap, ks, rfl, Blk.made W _ _, h1.below bA, h2, h3, ⟨h4.size, h5⟩, h4.trans (bA.mono h4.size)⟩
theorem all_any (w : World) (z b : Nat) (S : List (List UInt8)) (h : SetAt w z b S) (hn : S.length ≤ 4398046510976) : Calls Try.prog 11 #[.pointer (some ⟨z, 0, none⟩)] w (AllC w S) := by
  have HR := hide (rising_any w z b S h hn)
  clear h
  go_enter Try.func11, Try.ntmps11
  go_wp2_with (go_at_call 35; refine HR.out.mono ?_; rintro e w1 ⟨v, rfl, h4⟩; obtain ⟨ao, cap, ks, hv, k1, k2, k3⟩ := h4.row; have HE := hide (allC_of (cap := cap) k1 k2 k3 h4.bel (fun a e => h4.fr a _ _ (by rw [hv, e]))); subst hv; clear h4 k1 k2 k3)
  go_ret
  exact HE.out
theorem all_nil (w : World) : Calls Try.prog 11 #[.pointer none] w (AllC w []) := by
  have HR : Hid (Calls Try.prog 35 #[.pointer none] w fun e W => e = .returned (.slice none 0 0) ∧ W = w) := hide (by
    go_enter Try.func35, Try.ntmps35
    go_wp2
    go_ret
    exact ⟨rfl, rfl⟩)
  have HE := hide (allC_of (w := w) (W := w) (S := []) (ao := none) (cap := 0) (ks := []) ⟨fun i hi => absurd hi (Nat.not_lt_zero _), fun k hk => (by cases hk)⟩ List.Pairwise.nil (fun x => ⟨fun h => (by cases h), fun h => (by cases h.2)⟩) (Below.refl _ _) (fun a e => by cases e))
  go_enter Try.func11, Try.ntmps11
  go_wp2_with (go_at_call 35; refine HR.out.mono ?_; rintro e w1 ⟨rfl, hw⟩; rw [hw]; clear hw)
  go_ret
  exact HE.out
end Go.Proofs.Ytnloglecfbhpcaa
