/- slices.SortedFunc and rising. -/
import Derived.Test.YtjmjnecobaoofaaKN7
namespace Go.Proofs.Ytjmjnecobaoofaa
set_option linter.unusedVariables false
set_option linter.unusedSimpArgs false
open Go.RowKit Go.Sort Go.Shelf
set_option maxRecDepth 100000

def cmpF : Value := .func (.func 8) #[] #[]
theorem ins_none (p : Option Addr) (cap : Nat) (w : World) : Calls Try.prog 64 #[.slice p 0 cap, .int .i64 0, .int .i64 0, cmpF] w fun e w' => e = .returned (.tuple #[]) ∧ w' = w := by
  unfold cmpF
  go_enter Try.func64, Try.ntmps64
  go_wp2
  go_loopw [8] (fun t wr => t = .int .i64 1 ∧ wr = w) (fun _ _ => 0)
  case atStart => exact ⟨rfl, rfl⟩
  case round =>
    obtain ⟨rfl, rfl⟩ := hrel
    go_wp2
    go_end0
    exact ⟨rfl, rfl⟩
theorem pdq_none (p : Option Addr) (cap : Nat) (lim : Int) (w : World) : Calls Try.prog 62 #[.slice p 0 cap, .int .i64 0, .int .i64 0, .int .i64 lim, cmpF] w fun e w' => e = .returned (.tuple #[]) ∧ w' = w := by
  have HI := hide (ins_none p cap)
  unfold cmpF at *
  go_enter Try.func62, Try.ntmps62
  go_upto_region 2 with fail
  go_loopw [1, 2] (fun x y wr => x = .int .i64 0 ∧ y = .int .i64 0 ∧ wr = w) (fun _ _ _ => 0)
  case atStart => exact ⟨rfl, rfl, rfl⟩
  case round =>
    obtain ⟨rfl, rfl, rfl⟩ := hrel
    go_wp2_with (go_at_call 64; refine (HI.out _).mono ?_; rintro e w1 ⟨rfl, hw⟩; rw [hw]; clear hw)
    refine bodyPost_ret (results_noneK rfl _ _) rfl ?_
    exact ⟨rfl, rfl⟩
theorem sortFunc_none (p : Option Addr) (cap : Nat) (w : World) : Calls Try.prog 58 #[.slice p 0 cap, cmpF] w fun e w' => e = .returned (.tuple #[]) ∧ w' = w := by
  have HP := hide (fun lim => pdq_none p cap lim)
  have HL : Hid (∀ W, Calls Try.prog 63 #[.int .u64 0] W fun e w' => e = .returned (.int .i64 (Lib.bitLen 0 : Nat)) ∧ w' = W) := hide (fun W => Any.bits_Len (SlLaysF0.n15.bits (P := Try.prog) (ρ := laysSF_ren) { laysSF with }) 0 W (by omega) (by omega))
  unfold cmpF at *
  go_enter Try.func58, Try.ntmps58
  go_wp2_with (first | (go_at_call 63; refine (HL.out _).mono ?_; rintro e w1 ⟨rfl, hw⟩; rw [hw]; clear hw) | (go_at_call 62; refine (HP.out _ _).mono ?_; rintro e w1 ⟨rfl, hw⟩; rw [hw]; clear hw))
  go_end0
  exact ⟨rfl, rfl⟩
theorem sort_any0 (w : World) (base : Nat) (v : Value) (xs : List K32) (S : List (List UInt8)) (hxs : kyS S xs) (hbase : base ≤ w.heap.size) (ho : w.ownsRow base 24 32 v xs.length (rowK xs)) (hn : xs.length < 4611686018427387904) :
    Calls Try.prog 58 #[v, cmpF] w fun e W => e = .returned (.tuple #[]) ∧ (∃ (ao : Option Addr) (cap : Nat) (ks : List (List UInt8)), v = .slice ao ks.length cap ∧ KRow W ao ks ∧ Rising ks ∧ ∀ x : List UInt8, x ∈ ks ↔ (x.length = 32 ∧ x ∈ S)) ∧ Below base w W := by
  rcases Nat.eq_zero_or_pos xs.length with h0 | h0
  · obtain ⟨ao, cap, rfl⟩ := own_formK ho
    rw [h0]
    refine Calls.mono (sortFunc_none ao cap w) ?_
    rintro e W ⟨he, rfl⟩
    obtain rfl := List.eq_nil_of_length_eq_zero h0
    refine ⟨he, ⟨ao, cap, [], rfl, ⟨fun i hi => absurd hi (Nat.not_lt_zero _), fun k hk => (by cases hk)⟩, List.Pairwise.nil, fun x => ⟨fun h => (by cases h), fun h => ?_⟩⟩, Below.refl _ _⟩
    have := (hxs.2 ⟨x, h.1⟩).2 h.2
    cases this
  · exact sort_any w base v xs S hxs hbase ho h0 hn
theorem kyS_len {S : List (List UInt8)} {xs : List K32} (h : kyS S xs) : xs.length ≤ S.length := by
  have h1 : (xs.map Subtype.val).length ≤ S.length := List.Nodup.length_le_of_subset (List.Pairwise.map Subtype.val (fun a b h e => h (Subtype.ext e)) h.1) (fun y hy => by
    obtain ⟨q, hq, rfl⟩ := List.mem_map.1 hy
    exact (h.2 q).1 hq)
  simpa using h1
theorem own_from {w : World} {B s n : Nat} {e : TypeId} {v : Value} {ys : List Value} (h : w.ownsRow B e s v n ys) : ∀ (a : Addr) (m c : Nat), v = .slice (some a) m c → B ≤ a.block := fun a m c hv => by
  obtain ⟨h0, ⟨h1, h2⟩ | ⟨g, cap, cur, h1, hb, hh, hx⟩⟩ := h
  · rw [h1] at hv; cases hv
  · rw [h1] at hv; cases hv; exact hb
theorem sortedFunc_any (w : World) (b bm : Nat) (S : List (List UInt8)) (hS : KSet w b S) (hb : Blk w bm #[.map (some b)] 75) (hn : S.length ≤ 4398046510976) : Calls Try.prog 54 #[keF bm, cmpF] w fun e W => ∃ v, e = .returned v ∧ SrtC w S v W := by
  have HC := hide (collect_any w b bm S hS hb hn)
  have HS : Hid (∀ W v xs, kyS S xs → W.ownsRow w.heap.size 24 32 v xs.length (rowK xs) → Below w.heap.size w W → Calls Try.prog 58 #[v, cmpF] W fun e W2 => e = .returned (.tuple #[]) ∧ SrtC w S v W2) := hide (fun W v xs h1 h2 h3 => (sort_any0 W w.heap.size v xs S h1 h3.size h2 (by have := kyS_len h1; omega)).mono (fun e W2 h => ⟨h.1, h.2.1, h3.trans h.2.2, own_from h2⟩))
  clear hS hb
  unfold keF cmpF at *
  go_enter Try.func54, Try.ntmps54
  go_upto_region 2 with (go_at_call 57; refine HC.out.mono ?_; rintro e w1 ⟨v, xs, rfl, h1, h2, h3⟩; have HS1 := hide (HS.out w1 v xs h1 h2 h3); obtain ⟨ao, cap, hf⟩ := own_formK h2; subst hf; clear h1 h2 h3)
  clear HC HS
  go_wp2_with (go_at_call 58; refine HS1.out.mono ?_; rintro e w2 ⟨rfl, h4⟩; have H4 := hide h4; clear h4)
  go_ret
  exact ⟨_, rfl, H4.out⟩
theorem rising_any (w : World) (z b : Nat) (S : List (List UInt8)) (h : SetAt w z b S) (hn : S.length ≤ 4398046510976) : Calls Try.prog 44 #[.pointer (some ⟨z, 0, none⟩)] w fun e W => ∃ v, e = .returned v ∧ SrtC w S v W := by
  have c0 : w.cell? ⟨z, 0, none⟩ = some (.map (some b)) := by rw [h.blk.cell]; rfl
  have l0 := h.blk.lt
  have bA : Below w.heap.size w (w.alloc (.cells #[.map (some b)] 75)) := (Below.refl _ _).alloc (Nat.le_refl _) _
  have HK : Hid (Calls Try.prog 55 #[.map (some b)] w fun e W => e = .returned (keF w.heap.size) ∧ W = w.alloc (.cells #[.map (some b)] 75)) := hide (by
    unfold keF
    go_enter Try.func55, Try.ntmps55
    go_wp2
    go_ret
    exact ⟨rfl, rfl⟩)
  have HS := hide ((sortedFunc_any (w.alloc (.cells #[.map (some b)] 75)) b w.heap.size S (h.set.below bA) (Blk.made w _ _) hn).mono (fun e W h2 => by
    obtain ⟨v, he, hs⟩ := h2
    exact (⟨v, he, hs.row, bA.trans (hs.bel.mono bA.size), fun a n c e => Nat.le_trans bA.size (hs.fr a n c e)⟩ : ∃ v, e = .returned v ∧ SrtC w S v W)))
  clear h bA
  unfold keF cmpF at *
  go_enter Try.func44, Try.ntmps44
  go_wp2_with (first | (go_at_call 55; refine HK.out.mono ?_; rintro e w1 ⟨rfl, hw⟩; rw [hw]; clear hw) | (go_at_call 54; refine HS.out.mono ?_; rintro e w2 ⟨v, rfl, h4⟩; have H4 := hide h4; obtain ⟨ao, cap, ks, hv, _⟩ := h4.row; subst hv; clear h4))
  go_ret
  exact ⟨_, rfl, H4.out⟩
end Go.Proofs.Ytjmjnecobaoofaa
