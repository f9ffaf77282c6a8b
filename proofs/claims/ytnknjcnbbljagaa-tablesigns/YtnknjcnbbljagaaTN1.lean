/- The plain list of pairs in memory: at. -/
import Derived.Test.YtnknjcnbbljagaaTI14
namespace Go.Proofs.Ytnknjcnbbljagaa
set_option linter.unusedVariables false
set_option linter.unusedSimpArgs false
set_option maxRecDepth 100000
open Go.RowKit

/-- A plain list of pairs: its block, its two rows. -/
structure MdAt (W : World) (B mb : Nat) (kv vv : Value) (M : List (Int × Int)) : Prop where
  blk : Blk W mb #[kv, vv] 42
  ks : OwnsI W B kv (M.map Prod.fst)
  vs : OwnsI W B vv (M.map Prod.snd)
  ap : ∀ g, kv.ownBlock = some g → vv.ownBlock ≠ some g
/-- Where a key stands. -/
def atG (M : List (Int × Int)) (k : Int) : Nat → Nat → Int
  | 0, _ => -1
  | f + 1, i => if (M.getD i (0, 0)).1 == k then (i : Int) else atG M k f (i + 1)
def atM (M : List (Int × Int)) (k : Int) : Int := atG M k M.length 0
section
variable {B mb : Nat} {kv vv : Value} {M : List (Int × Int)}
theorem MdAt.below {W W' : World} (h : MdAt W B mb kv vv M) (hb : Below W.heap.size W W') : MdAt W' B mb kv vv M := ⟨h.blk.below hb h.blk.lt, h.ks.below hb, h.vs.below hb, h.ap⟩
theorem MdAt.drewN {W : World} (h : MdAt W B mb kv vv M) (n : Nat) : MdAt (W.drewN n) B mb kv vv M := h.below (below_dN (Below.refl _ _) n)
theorem at_any (w : World) (H : MdAt w B mb kv vv M) (k : Int) (hl : M.length ≤ 8796093022208) : Calls Try.prog 20 #[.pointer (some ⟨mb, 0, none⟩), .int .i64 k] w fun e w' => e = .returned (.int .i64 (atM M k)) ∧ w' = w := by
  obtain ⟨ao, cap, hf, hg⟩ := H.ks.form
  have hlen : (M.map Prod.fst).length = M.length := by simp
  rw [hlen] at hf hg
  have HK := hide H.ks
  have c0 : w.cell? ⟨mb, 0, none⟩ = some kv := by rw [H.blk.cell]; rfl
  rw [hf] at c0 HK
  have hm := H.blk.lt
  have HG := hide hg
  obtain ⟨n, hn⟩ : ∃ n, n = M.length := ⟨_, rfl⟩
  have HN := hide hn
  rw [← hn] at c0 hl HK HG
  clear H hf hg hlen hn
  go_enter Try.func20, Try.ntmps20
  go_wp2
  go_loop [5] (fun t => ∃ j : Nat, t = .int .i64 j ∧ j ≤ n ∧ Hid (atM M k = atG M k (n - j) j)) (fun t => n - (intOf t).toNat)
  case atStart => exact ⟨0, rfl, Nat.zero_le _, hide (by unfold atM; rw [HN.out]; rfl)⟩
  case round =>
    obtain ⟨j, rfl, hj, hq⟩ := hrel
    by_cases hlt : j < n
    · have hji : (j : Int) < (n : Int) := by omega
      obtain ⟨g, rfl⟩ := HG.out (by omega)
      have hjm : j < (M.map Prod.fst).length := by simp; rw [← HN.out]; exact hlt
      have d := HK.out.at j hjm
      have hx : (M.map Prod.fst)[j]'hjm = (M.getD j (0, 0)).1 := by
        simp at hjm
        simp [List.getD_eq_getElem?_getD, List.getElem?_eq_getElem hjm]
      rw [hx] at d
      have HQ : Hid (atM M k = if (M.getD j (0, 0)).1 == k then (j : Int) else atG M k (n - (j + 1)) (j + 1)) := hide (by rw [hq.out, show n - j = (n - (j + 1)) + 1 by omega, atG])
      generalize (M.getD j (0, 0)).1 = x at *
      have hgl := World.block_lt_of_cell? w _ d
      cases he : (x == k) with
      | true =>
        rw [he] at HQ
        clear hq hx hjm
        go_wp2
        go_ret
        exact ⟨by rw [HQ.out]; rfl, rfl⟩
      | false =>
        rw [he] at HQ
        clear hq hx hjm
        go_wp2
        go_round
        case rel => exact ⟨j + 1, by go_num, by omega, HQ⟩
        case measure => simp [intOf]; omega
    · have hji : ¬ (j : Int) < (n : Int) := by omega
      have HQ : Hid (atM M k = -1) := hide (by rw [hq.out, show n - j = 0 by omega]; rfl)
      go_wp2
      go_ret
      exact ⟨by rw [HQ.out]; rfl, rfl⟩
end
end Go.Proofs.Ytnknjcnbbljagaa
