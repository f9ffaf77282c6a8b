/- KeyAlgebra: the sets and rows of the law. -/
import Derived.Test.YtjmjnecobaoofaaKN18
import Derived.Test.YtjmjnecobaoofaaKM5
namespace Go.Proofs.Ytjmjnecobaoofaa
set_option linter.unusedVariables false
set_option linter.unusedSimpArgs false
open Go.RowKit Go.Shelf
set_option maxRecDepth 100000

/-- A set that a list tells, each key once. -/
structure StA (W : World) (z : Nat) (S : List (List UInt8)) : Prop where
  at' : ∃ b, SetAt W z b S
  nd : S.Nodup
  l32 : ∀ x ∈ S, x.length = 32
theorem StA.below {W W' : World} {z : Nat} {S : List (List UInt8)} (h : StA W z S) (hb : Below W.heap.size W W') : StA W' z S := by
  obtain ⟨b, hs⟩ := h.at'
  exact ⟨⟨b, hs.below hb⟩, h.nd, h.l32⟩
theorem addAll_le (ks : List (List UInt8)) : (addAll ks).length ≤ ks.length := by
  have := addAll_len ks ks.length (Nat.le_refl _)
  rwa [List.take_length] at this
theorem rowK_at (xs : List K32) (i c : Nat) (hi : i < xs.length) (hc : c < 32) : (rowK xs)[i * 32 + c]? = (xs[i].1.map u8c)[c]? := by
  haveI : Inhabited K32 := ⟨⟨List.replicate 32 0, by simp⟩⟩
  rw [rowK_get xs (i * 32 + c) (by omega), show (i * 32 + c) / 32 = i by omega, show (i * 32 + c) % 32 = c by omega, getElem!_pos xs i hi]
  have hl : c < (encK xs[i]).length := by simp [encK, xs[i].2, hc]
  rw [getElem!_pos (encK xs[i]) c hl]
  exact (List.getElem?_eq_getElem hl).symm
theorem own_krow {W : World} {B n cap : Nat} {ao : Option Addr} {xs : List K32} (h : W.ownsRow B 24 32 (.slice ao n cap) xs.length (rowK xs)) : KRow W ao (xs.map Subtype.val) := by
  refine ⟨fun i hi => ?_, fun k hk => ?_⟩
  · have hi' : i < xs.length := by simpa using hi
    obtain ⟨hl, ⟨_, h1⟩ | ⟨g, cap', cur, e, hg, hh, hcap, hmax, hcs, ht⟩⟩ := h
    · omega
    · cases e
      refine ⟨g, 0, rfl, fun c u hu => ?_⟩
      have hB : Blk W g cur 24 := hh
      rw [List.getElem_map] at hu
      have hc : c < 32 := by
        have := (List.getElem?_eq_some_iff.1 hu).1
        simpa [xs[i].2] using this
      have h2 := rowK_at xs i c hi' hc
      rw [hu, ← ht, List.getElem?_take_of_lt (by omega), Array.getElem?_toList] at h2
      rw [Nat.zero_add, hB.cell]
      exact h2
  · obtain ⟨q, _, rfl⟩ := List.mem_map.1 hk
    exact q.2
/-- The five sets, and the two rows that came in. -/
structure AlS (w : World) (aa ab : Option Addr) (ka kb : List (List UInt8)) (zs zt zu zv zm : Nat) (U V M : List (List UInt8)) (W : World) : Prop where
  ra : KRow W aa ka
  rb : KRow W ab kb
  s : StA W zs (addAll ka)
  t : StA W zt (addAll kb)
  u : StA W zu U
  v : StA W zv V
  m : StA W zm M
  bel : Below w.heap.size w W
theorem AlS.below {w W W' : World} {aa ab : Option Addr} {ka kb : List (List UInt8)} {zs zt zu zv zm : Nat} {U V M : List (List UInt8)} (h : AlS w aa ab ka kb zs zt zu zv zm U V M W) (hb : Below W.heap.size W W') : AlS w aa ab ka kb zs zt zu zv zm U V M W' :=
  ⟨h.ra.below hb, h.rb.below hb, h.s.below hb, h.t.below hb, h.u.below hb, h.v.below hb, h.m.below hb, h.bel.trans (hb.mono h.bel.size)⟩
theorem StA.len {W : World} {z : Nat} {S : List (List UInt8)} (h : StA W z S) : Calls Try.prog 17 #[.pointer (some ⟨z, 0, none⟩)] W fun e w' => e = .returned (.int .i64 (S.length : Int)) ∧ w' = W := by
  obtain ⟨b, hs⟩ := h.at'
  exact klen_any W z b S hs
end Go.Proofs.Ytjmjnecobaoofaa
