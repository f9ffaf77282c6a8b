/- The list of strings that Each takes off, by the plain machine; one of them. -/
import Derived.Test.YtinjcefekbpababB2
namespace Go.Proofs.Ytinjcefekbpabab
set_option linter.unusedVariables false
set_option linter.unusedSimpArgs false
open Go.RowKit

theorem infoStr : (Try.prog.info? 9).map (fun i => (i.zero, i.size, i.bytes)) = some (some (.string ⟨#[]⟩), 1, 16) := by kernel_rfl
def strc (xs : List UInt8) : Value := .string ⟨xs.toArray⟩
/-- How many bytes the call number c takes. -/
def szOf (zs : List UInt8) (c : Nat) : Nat := if h : c < zs.length then zs[c].toNat % 4 else 1
def eachS (bs zs : List UInt8) : Nat → S → Nat → List (List UInt8) → List (List UInt8) × S × Nat
  | 0, s, c, acc => (acc, s, c)
  | n + 1, s, c, acc => if s.code ≠ 0 then (acc, s, c) else eachS bs zs n (mNext bs s (mPlace s) (szOf zs c)).2 (c + 1) (acc ++ [(mNext bs s (mPlace s) (szOf zs c)).1.getD []])
theorem eachS_stop (bs zs : List UInt8) (n : Nat) (s : S) (c : Nat) (acc : List (List UInt8)) (h : s.code ≠ 0) : eachS bs zs n s c acc = (acc, s, c) := by
  cases n with
  | zero => rfl
  | succ n => rw [eachS, if_pos h]
theorem eachS_more (bs zs : List UInt8) (n : Nat) (s : S) (c : Nat) (acc : List (List UInt8)) (h : s.code = 0) (hn : 0 < n) : eachS bs zs n s c acc = eachS bs zs (n - 1) (mNext bs s (mPlace s) (szOf zs c)).2 (c + 1) (acc ++ [(mNext bs s (mPlace s) (szOf zs c)).1.getD []]) := by
  cases n with
  | zero => omega
  | succ n => rw [eachS, if_neg (by omega)]; rfl
theorem szOf_le (zs : List UInt8) (c : Nat) : szOf zs c ≤ 3 := by unfold szOf; split <;> omega

/-- What a call of the literal needs and keeps. -/
structure Lit1 (w0 w : World) (z : Nat) (sv : Value) (y : Nat) (rv : Value) (bs : List UInt8) (s r : S) (cb : Nat) (c : Nat) (sb : Nat) (sz : Value) : Prop where
  two : Two w z sv y rv bs s r
  bel : Below w0.heap.size w0 w
  cc : Blk w cb #[.int .i64 (c : Int)] 3
  ss : Blk w sb #[sz] 22
/-- The places are apart. -/
structure Apart1 (w0 : World) (z : Nat) (sv : Value) (y : Nat) (rv : Value) (bs : List UInt8) (cb sb : Nat) : Prop where
  z0 : w0.heap.size ≤ z
  c0 : w0.heap.size ≤ cb
  cz : cb ≠ z
  cy : cb ≠ y
  cs : cb ≠ sb
  sz : sb ≠ z
  sv : ∀ b, sv = .slice (some ⟨b, 0, none⟩) bs.length bs.length → b ≠ cb
  rv : ∀ b cap, rv = .slice (some ⟨b, 0, none⟩) bs.length cap → b ≠ cb

theorem Lit1.step {w0 w w' : World} {z y cb c sb : Nat} {sv rv sz : Value} {bs : List UInt8} {s r s' : S} (h : Lit1 w0 w z sv y rv bs s r cb c sb sz) (ha : Apart1 w0 z sv y rv bs cb sb) (hd : DecSt w' z sv bs s') (hg : w.grownBy w' (some z)) : Lit1 w0 w' z sv y rv bs s' r cb c sb sz :=
  ⟨h.two.stepD hd hg, h.bel.trans (below_grownBy hg ha.z0 h.bel.size), h.cc.grown hg (fun e => ha.cz (Option.some.inj e)), h.ss.grown hg (fun e => ha.sz (Option.some.inj e))⟩
theorem Lit1.count {w0 w : World} {z y cb c sb : Nat} {sv rv sz : Value} {bs : List UInt8} {s r : S} (h : Lit1 w0 w z sv y rv bs s r cb c sb sz) (ha : Apart1 w0 z sv y rv bs cb sb) (q : Int) (hq : q = ((c + 1 : Nat) : Int)) : Lit1 w0 (w.setCell ⟨cb, 0, none⟩ (.int .i64 q)) z sv y rv bs s r cb (c + 1) sb sz := by
  subst hq
  exact ⟨h.two.set (fun e => ha.cz e.symm) (fun e => ha.cy e.symm) ha.sv ha.rv, h.bel.setCell ha.c0 _, h.cc.set 0 _, h.ss.setOther _ _ (fun e => ha.cs e.symm)⟩

def LitC (w0 : World) (z : Nat) (sv : Value) (y : Nat) (rv : Value) (bs : List UInt8) (r : S) (cb c sb : Nat) (sz : Value) (q : Option (List UInt8) × S) (w : World) (e : Ending) (w' : World) : Prop :=
  e = .returned (strc (q.1.getD [])) ∧ Lit1 w0 w' z sv y rv bs q.2 r cb (c + 1) sb sz ∧ w.heap.size ≤ w'.heap.size ∧ (∀ i, i < w.heap.size → i ≠ z → i ≠ cb → w'.heap[i]? = w.heap[i]?)

theorem RdA.at {w : World} {v : Value} {zs : List UInt8} (h : RdA w v zs) (k : Nat) (hk : k < zs.length) : ∃ b o c, v = .slice (some ⟨b, o, none⟩) zs.length c ∧ w.cell? ⟨b, o + k, none⟩ = some (.int .u8 (zs[k].toNat : Int)) := by
  rcases h with h | ⟨a, _, rfl⟩
  · rcases h.form with ⟨_, rfl⟩ | ⟨b, o, c, rfl, hcell⟩
    · simp at hk
    · exact ⟨b, o, c, rfl, hcell k hk⟩
  · simp at hk

set_option maxRecDepth 20000 in
set_option maxHeartbeats 1600000 in
theorem lit_st (w0 w : World) (z : Nat) (sv : Value) (y : Nat) (rv : Value) (bs zs : List UInt8) (s r : S) (cb c sb : Nat) (sz : Value) (ha : Apart1 w0 z sv y rv bs cb sb) (hz : RdA w0 sz zs) (hc : c ≤ 4611686018427387904) (hlen : bs.length ≤ 140737488351232) (h : Lit1 w0 w z sv y rv bs s r cb c sb sz) :
    Calls Try.prog 8 #[.pointer (some ⟨z, 0, none⟩), .pointer (some ⟨cb, 0, none⟩), .pointer (some ⟨sb, 0, none⟩)] w (LitC w0 z sv y rv bs r cb c sb sz (mNext bs s (mPlace s) (szOf zs c)) w) := by
  have c0 := h.cc.cell 0
  have f0 := h.cc.frozen 0
  have s0' := h.ss.cell 0
  have HRD := hide (hz.below h.bel)
  obtain ⟨ao, cap, rfl, hzl⟩ := hz.slice
  have HN := hide (fun W n h1 h2 hd => raw_st W z sv bs s n h1 h2 hd (by omega))
  have hC := h.count ha ((c : Int) + 1) (by omega)
  have HC := hide hC
  have fin : ∀ (q : Option (List UInt8) × S) (w1 : World) (u : Value), w1.ownsRow (w.setCell ⟨cb, 0, none⟩ (.int .i64 ((c : Int) + 1))).heap.size 5 1 u (q.1.getD []).length ((q.1.getD []).map u8c) → DecSt w1 z sv bs q.2 → (w.setCell ⟨cb, 0, none⟩ (.int .i64 ((c : Int) + 1))).grownBy w1 (some z) → LitC w0 z sv y rv bs r cb c sb (.slice ao zs.length cap) q w (.returned (strc (q.1.getD []))) w1 := by
    intro q w1 u _ hd hg
    refine ⟨rfl, hC.step ha hd hg, ?_, fun i hi hz hc => ?_⟩
    · have := hg.size
      simpa using this
    · rw [hg.block i (by simpa using hi) (fun e => hz (Option.some.inj e))]
      exact heap_setCell_other w _ i _ (fun e => hc e)
  have HF := hide fin
  have HNX := hide (fun n h1 h2 => raw_st (w.setCell ⟨cb, 0, none⟩ (.int .i64 ((c : Int) + 1))) z sv bs s n h1 h2 hC.two.d (by omega))
  clear fin hC
  by_cases hlt : c < zs.length
  · obtain ⟨b, o, c', e, hcell⟩ := HRD.out.at c hlt
    cases e
    have hsz : szOf zs c = zs[c].toNat % 4 := by rw [szOf, dif_pos hlt]
    rw [hsz]
    have hb := zs[c].toNat_lt
    generalize zs[c].toNat = q at hcell hb ⊢
    have HQ := hide (HNX.out ((q % 4 : Nat) : Int) (by omega) (by omega))
    rw [show (((q % 4 : Nat) : Int)).toNat = q % 4 by omega] at HQ
    clear h ha hz hsz HN HNX
    generalize mNext bs s (mPlace s) (q % 4) = rr at HQ ⊢
    go_enter Try.func8, Try.ntmps8
    go_wp2_with fail
    refine (HQ.out).mono ?_
    rintro e w1 ⟨⟨u, rfl, hown⟩, hd, hg⟩
    have HFF := hide (HF.out rr w1 u hown hd hg)
    have hcv := conv_rd w1 u _ (Rd_owned hown)
    clear hown hd hg HQ
    go_wp2
    go_ret
    exact HFF.out
  · have hsz : szOf zs c = 1 := by rw [szOf, dif_neg hlt]
    rw [hsz]
    have HQ := hide (HNX.out 1 (by omega) (by omega))
    rw [show ((1 : Int)).toNat = 1 from rfl] at HQ
    have hnl : ¬ (c : Int) < (zs.length : Int) := by omega
    clear h ha hz hsz HN HNX
    generalize mNext bs s (mPlace s) 1 = rr at HQ ⊢
    go_enter Try.func8, Try.ntmps8
    go_wp2_with fail
    refine (HQ.out).mono ?_
    rintro e w1 ⟨⟨u, rfl, hown⟩, hd, hg⟩
    have HFF := hide (HF.out rr w1 u hown hd hg)
    have hcv := conv_rd w1 u _ (Rd_owned hown)
    clear hown hd hg HQ
    go_wp2
    go_ret
    exact HFF.out
end Go.Proofs.Ytinjcefekbpabab
