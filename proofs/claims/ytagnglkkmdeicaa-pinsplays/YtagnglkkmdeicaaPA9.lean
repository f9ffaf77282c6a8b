/- Sessions of both sides. -/
import Derived.Test.YtagnglkkmdeicaaPA1
import Derived.Test.YtagnglkkmdeicaaPA2
import Derived.Test.YtagnglkkmdeicaaPA8r
namespace Go.Proofs.Ytagnglkkmdeicaa
set_option linter.unusedVariables false
set_option linter.unusedSimpArgs false
open Go.RowKit Go.Shelf
set_option maxRecDepth 100000

theorem rising_unique : ∀ {A B : List (List UInt8)}, A.Pairwise (fun a b => cmpK a b < 0) → B.Pairwise (fun a b => cmpK a b < 0) → (∀ x, x ∈ A ↔ x ∈ B) → A = B
  | [], [], _, _, _ => rfl
  | [], b :: B, _, _, h => by have := (h b).2 (List.mem_cons_self ..); cases this
  | a :: A, [], _, _, h => by have := (h a).1 (List.mem_cons_self ..); cases this
  | a :: A, b :: B, hA, hB, h => by
    obtain ⟨a1, a2⟩ := List.pairwise_cons.1 hA
    obtain ⟨b1, b2⟩ := List.pairwise_cons.1 hB
    have e : a = b := by
      rcases List.mem_cons.1 ((h a).1 (List.mem_cons_self ..)) with e | h1
      · exact e
      · rcases List.mem_cons.1 ((h b).2 (List.mem_cons_self ..)) with e | h2
        · exact e.symm
        · have := b1 a h1
          have := a1 b h2
          have := cmpK_neg a b
          omega
    subst e
    have ht : ∀ x, x ∈ A ↔ x ∈ B := fun x => by
      constructor
      · intro hx
        rcases List.mem_cons.1 ((h x).1 (List.mem_cons_of_mem _ hx)) with e | h1
        · subst e; have := a1 x hx; rw [cmpK_self] at this; exact absurd this (by decide)
        · exact h1
      · intro hx
        rcases List.mem_cons.1 ((h x).2 (List.mem_cons_of_mem _ hx)) with e | h1
        · subst e; have := b1 x hx; rw [cmpK_self] at this; exact absurd this (by decide)
        · exact h1
    rw [rising_unique a2 b2 ht]
theorem rising_nd {ks : List (List UInt8)} (h : ks.Pairwise (fun a b => cmpK a b < 0)) : ks.Nodup := h.imp (fun {a b} h e => by subst e; rw [cmpK_self] at h; exact absurd h (by decide))
/-- What a row of sessions' growth leaves. -/
theorem PinsAt.grownS {w w' : World} {zp : Nat} {os : List (Option SesV)} {row : Option Nat} (h : PinsAt w zp os) (hg : w.grownBy w' row) (hr : ∀ r, row = some r → ∃ (c : Array Value) (fz : Nat × Nat), w.heap[r]? = some (Obj.cells c 80 fz)) : PinsAt w' zp os := by
  have ne : ∀ {b : Nat} {cs : Array Value} {t : TypeId}, Blk w b cs t → t ≠ 80 → some b ≠ row := fun hb ht e => by
    obtain ⟨c, fz, h1⟩ := hr _ e.symm
    unfold Blk at hb
    rw [hb] at h1
    injection h1 with h1
    injection h1 with _ h2 _
    exact ht h2
  refine ⟨h.blk.grown hg (ne h.blk (by decide)), h.len, fun s v e => ?_, h.apart⟩
  have hs := h.ses s v e
  refine hs.grown hg (ne hs.blk (by decide)) (ne hs.set.blk (by decide)) (fun e1 => ?_)
  obtain ⟨c, fz, h1⟩ := hr _ e1.symm
  obtain ⟨D, ⟨es, clock, hb, _⟩, _⟩ := hs.set.set
  rw [hb] at h1
  cases h1
abbrev Tl := Nat × Nat × List (List UInt8)
def projS (e : SeV) : Tl := (e.num, e.busy, e.xs)
def tellT (f : Nat → Option (Nat × List (List UInt8))) : Nat → List Tl
  | 0 => []
  | n + 1 => tellT f n ++ (match f n with | none => [] | some p => [(n, p.1, p.2)])
def SesC (w : World) (f : Nat → Option (Nat × List (List UInt8))) (e : Ending) (w' : World) : Prop := ∃ v E, e = .returned v ∧ LstS w' w.heap.size v E ∧ E.map projS = tellT f 16 ∧ Below w.heap.size w w'
theorem rowK_Q (xs : List K32) : rowK xs = rowQ (xs.map Subtype.val) := by simp [rowK, rowQ, List.flatMap_map]
theorem ownQ_of {W : World} {B C : Nat} {v : Value} {xs : List K32} {L : List (List UInt8)} (h : W.ownsRow C 30 32 v xs.length (rowK xs)) (e : xs.map Subtype.val = L) (hB : B ≤ C) : OwnQ W B v L := by
  have h1 := own_lowerTo h hB
  unfold OwnQ
  rw [rowK_Q, e] at h1
  rw [← e, List.length_map]
  rw [← e] at h1
  exact h1
theorem ownQ_lt {W : World} {B n cap : Nat} {ao : Option Addr} {ks : List (List UInt8)} (h : OwnQ W B (.slice ao n cap) ks) {a : Addr} (e : ao = some a) : a.block < W.heap.size ∧ B ≤ a.block := by
  subst e
  obtain ⟨h0, ⟨h1, h2⟩ | ⟨g, cap', cur, h1, hB, hh, _⟩⟩ := h
  · cases h1
  · cases h1; exact ⟨Blk.lt (cs := cur) (t := 30) hh, hB⟩
theorem ownQ_lower {W : World} {B C : Nat} {v : Value} {L : List (List UInt8)} (h : OwnQ W C v L) (hB : B ≤ C) : OwnQ W B v L := own_lowerTo h hB
def CollL (w : World) (L : List (List UInt8)) (e : Ending) (w' : World) : Prop := ∃ ak ck, e = .returned (.slice ak L.length ck) ∧ OwnQ w' w.heap.size (.slice ak L.length ck) L ∧ Below w.heap.size w w'
theorem collectL (w : World) (b3 : Nat) (ao : Option Addr) (cap : Nat) (ks L : List (List UInt8)) (hb : Blk w b3 #[.slice ao ks.length cap] 42) (hk : KRow w ao ks) (hn : ks.length ≤ 4398046510976) (e : ks = L) : Calls Try.prog 45 #[riF b3] w (CollL w L) := by
  refine (collectAll_any w b3 ao cap ks hb hk hn).mono ?_
  rintro r w3 ⟨v3, xs, rfl, x1, x2, x3⟩
  obtain ⟨ak, ck, rfl⟩ := own_formK x2
  have hxL : xs.map Subtype.val = L := x1.trans e
  have hlen : xs.length = L.length := by rw [← hxL, List.length_map]
  have hq := ownQ_of x2 hxL (Nat.le_refl _)
  rw [hlen] at hq ⊢
  exact ⟨ak, ck, rfl, hq, x3⟩
theorem run_appendS (w : World) (base : Nat) (v : Value) (E : List SeV) (hown : LstS w base v E) (z : Nat) (e : SeV) (hc : Blk w z (seV e).toArray 80) (hlen : E.length + 1 ≤ 1000) (hbase : base ≤ w.heap.size) (hk : OwnQ w base (.slice e.ka e.xs.length e.kc) e.xs) (hup : ∀ q ∈ E, ∀ x y : Addr, q.ka = some x → e.ka = some y → x.block < y.block) (h32 : ∀ x ∈ e.xs, x.length = 32) :
    ∃ v' w', (Builtin.append_ #[61, 61] 61 #[v, .slice (some ⟨z, 0, none⟩) 1 1]).run Try.prog w = .ok v' w' ∧ LstS w' base v' (E ++ [e]) ∧ w.grownBy w' v.ownBlock := by
  obtain ⟨i0, hi, hz0, hz1, hz2⟩ := infoSes
  obtain ⟨v', w', hr, h1, h2, _, h4⟩ := run_append_own_at (P := Try.prog) w base 61 61 80 i0 (.agg #[.int .i64 0, .int .i64 0, .slice none 0 0]) 3 40 Try.underlying61 hi hz0 hz1 hz2 rfl (by decide) v E.length (rowS E) hown.own ⟨z, 0, none⟩ 1 1 (seV e) rfl (fun j u hj => by rw [Addr.add_mid, hc.cell]; simpa using hj) (seV_one e) (by unfold maxLen; omega) (by omega) hbase
  refine ⟨v', w', hr, ?_, h2⟩
  have far : ∀ (u : Value) (n : Nat) (ys : List Value), w.ownsRow base 30 32 u n ys → w'.ownsRow base 30 32 u n ys := fun u n ys hu => by
    obtain ⟨q0, q1 | ⟨g, cap, cur, rfl, hB, hh, hr⟩⟩ := hu
    · exact ⟨q0, .inl q1⟩
    · refine ⟨q0, .inr ⟨g, cap, cur, rfl, hB, (h2.block g (Blk.lt (cs := cur) (t := 30) hh) (fun e1 => ?_)).trans hh, hr⟩⟩
      obtain ⟨r0, ⟨r1, _⟩ | ⟨g', cap', cur', r1, rB, rh, rr⟩⟩ := hown.own
      · rw [r1] at e1; cases e1
      · rw [r1] at e1
        have : g = g' := Option.some.inj e1
        subst this
        rw [hh] at rh
        injection rh with rh
        injection rh with _ rt _
        exact absurd rt (by decide)
  refine ⟨?_, fun q hq => ?_, ?_, ?_⟩
  · rw [rowS_snoc, List.length_append, List.length_singleton]; exact h1
  · rcases List.mem_append.1 hq with hq | hq
    · exact far _ _ _ (hown.keys q hq)
    · rw [List.mem_singleton.1 hq]; exact far _ _ _ hk
  · rw [List.pairwise_append]
    exact ⟨hown.up, List.pairwise_singleton .., fun q hq b hb => by rw [List.mem_singleton.1 hb]; exact hup q hq⟩
  · intro q hq
    rcases List.mem_append.1 hq with hq | hq
    · exact hown.l32 q hq
    · rw [List.mem_singleton.1 hq]; exact h32
/-- The state of Sessions' loop. -/
structure SeL (w : World) (f : Nat → Option (Nat × List (List UInt8))) (i : Nat) (v : Value) (E : List SeV) (W : World) : Prop where
  row : LstS W w.heap.size v E
  tell : E.map projS = tellT f i
  few : E.length ≤ i
  bel : Below w.heap.size w W
theorem SeL.skip {w W : World} {f : Nat → Option (Nat × List (List UInt8))} {i : Nat} {v : Value} {E : List SeV} (h : SeL w f i v E W) (hf : f i = none) : SeL w f (i + 1) v E W := ⟨h.row, by rw [tellT, hf, List.append_nil]; exact h.tell, by have := h.few; omega, h.bel⟩
theorem SeL.below {w W W' : World} {f : Nat → Option (Nat × List (List UInt8))} {i : Nat} {v : Value} {E : List SeV} (h : SeL w f i v E W) (hb : Below W.heap.size W W') : SeL w f i v E W' := ⟨h.row.below hb, h.tell, h.few, h.bel.trans (hb.mono h.bel.size)⟩
theorem SeL.next {w W W' : World} {f : Nat → Option (Nat × List (List UInt8))} {i : Nat} {v v' : Value} {E : List SeV} {e : SeV} (h : SeL w f i v E W) (hf : f i = some (e.busy, e.xs)) (hn : e.num = i) (hr : LstS W' w.heap.size v' (E ++ [e])) (hg : W.grownBy W' v.ownBlock) : SeL w f (i + 1) v' (E ++ [e]) W' := by
  refine ⟨hr, ?_, by have := h.few; rw [List.length_append, List.length_singleton]; omega, h.bel.grown hg h.bel.size (fun g hg2 => ?_)⟩
  · rw [tellT, hf, List.map_append, h.tell]
    show tellT f i ++ [(e.num, e.busy, e.xs)] = _
    rw [hn]
  · obtain ⟨h0, ⟨h1, _⟩ | ⟨g', cap, cur, h1, hb, _⟩⟩ := h.row.own
    · rw [h1] at hg2; cases hg2
    · rw [h1] at hg2; cases hg2; exact hb
theorem cellB {w w' : World} {p : Addr} {v : Value} (hb : Below w.heap.size w w') (h : w.cell? p = some v) : w'.cell? p = some v := by
  rw [hb.cell (World.block_lt_of_cell? w _ h)]; exact h
def fO (os : List (Option SesV)) (Lf : Nat → List (List UInt8)) (k : Nat) : Option (Nat × List (List UInt8)) := (sel os (k : Int)).map fun v => (v.busy, Lf k)
set_option maxHeartbeats 4000000 in
theorem psessions_any (w : World) (zp : Nat) (os : List (Option SesV)) (Lf : Nat → List (List UInt8)) (h : PinsAt w zp os) (hL : ∀ (k : Nat) (v : SesV), k < 16 → sel os (k : Int) = some v → (Lf k).Pairwise (fun a b => cmpK a b < 0) ∧ (∀ x : List UInt8, x ∈ Lf k ↔ (x.length = 32 ∧ x ∈ v.S)) ∧ v.S.length ≤ 4398046510976) : Calls Try.prog 27 #[.pointer (some ⟨zp, 0, none⟩)] w (SesC w (fO os Lf)) := by
  have HP := hide h
  have HL := hide hL
  clear h hL
  go_enter Try.func27, Try.ntmps27
  go_wp2
  go_loopw [3, 6] (fun t u wr => ∃ (i : Nat) (E : List SeV) (am : Option Addr) (mm cap : Nat), u = .int .i64 i ∧ i ≤ 16 ∧ t = .slice am mm cap ∧ SeL w (fO os Lf) i (.slice am mm cap) E wr ∧ PinsAt wr zp os) (fun _ u _ => 16 - (intOf u).toNat)
  case atStart => exact ⟨0, [], none, 0, 0, rfl, by omega, rfl, ⟨LstS.nil _ _, rfl, Nat.le_refl _, Below.refl _ _⟩, HP.out⟩
  case round =>
    clear HP
    obtain ⟨i, E, am, mm, cap, rfl, hi, rfl, hS, hP⟩ := hrel
    by_cases hlt : i < 16
    · have hii : (i : Int) < 16 := by omega
      have HAT := hide (at_any wr zp os (i : Int) hP)
      have HS := hide hS
      have HP := hide hP
      have HF : Hid (fO os Lf i = (sel os (i : Int)).map fun v => (v.busy, Lf i)) := hide rfl
      have HLi := hide (HL.out i)
      cases ho : sel os (i : Int) with
      | none =>
        rw [ho] at HAT HF
        have HAT' : Hid (Calls Try.prog 33 #[.pointer (some ⟨zp, 0, none⟩), .int .i64 (i : Int)] wr fun e w' => e = .returned (.pointer none) ∧ w' = wr) := HAT
        clear HAT hS hP ho
        go_wp2_with (go_at_call 33; (with_reducible refine HAT'.out.mono ?_); rintro e w' ⟨rfl, hw⟩; rw [hw]; clear hw)
        exact ⟨⟨i + 1, E, am, mm, cap, by go_num, by omega, rfl, HS.out.skip HF.out, HP.out⟩, by simp [intOf]; omega⟩
      | some v =>
        obtain ⟨hr1, hr2, hr3⟩ := HLi.out v hlt ho
        have HR1 := hide hr1
        have HR2 := hide hr2
        rw [ho] at HAT HF
        have HAT' : Hid (Calls Try.prog 33 #[.pointer (some ⟨zp, 0, none⟩), .int .i64 (i : Int)] wr fun e w' => e = .returned (.pointer (some ⟨v.zs, 0, none⟩)) ∧ w' = wr) := HAT
        have hPd := hP.below (below_d wr)
        have hse := hPd.sel (i : Int) v ho
        have hc0 : wr.drew.cell? ⟨v.zs, 0, none⟩ = some (.pointer (some ⟨v.z, 0, none⟩)) := by rw [hse.blk.cell]; rfl
        have hc1 : wr.drew.cell? ⟨v.zs, 1, none⟩ = some (.int .i64 (v.busy : Int)) := by rw [hse.blk.cell]; rfl
        have HAL := hide (all_any wr.drew v.z v.b v.S hse.set hr3)
        have HSd := hide (hS.below (below_d wr))
        have HPd := hide hPd
        have HR3 := hide hr3
        have HSEL := hide ho
        clear HAT hS hP ho hr1 hr2 hr3 hse hPd HS HP HLi
        go_upto_region 7 with (go_at_call 33; (with_reducible refine HAT'.out.mono ?_); rintro e w' ⟨rfl, hw⟩; rw [hw]; clear hw)
        have H32 : Hid (∀ x ∈ Lf i, x.length = 32) := hide (fun x hx => ((HR2.out x).1 hx).1)
        have HFi : Hid (fO os Lf i = some (v.busy, Lf i)) := HF
        refine ps_walk _ (fun _ _ _ _ _ h => h) wr v.zs v.z v.busy i am mm cap (Lf i) (fun bx w2 => Below wr.drew.heap.size wr.drew w2 ∧ ∃ aA cA, Blk w2 bx #[.slice aA (Lf i).length cA] 42 ∧ KRow w2 aA (Lf i) ∧ (Lf i).length ≤ 4398046510976) (fun w2 ak ck w3 => OwnQ w3 w2.heap.size (.slice ak (Lf i).length ck) (Lf i) ∧ Below w2.heap.size w2 w3) (fun ak ck w3 v5 w5 => SeL w (fO os Lf) (i + 1) v5 (E ++ [⟨i, v.busy, ak, ck, Lf i⟩]) w5 ∧ PinsAt w5 zp os) ⟨hc0, hc1⟩ ?c1 ?k1 ?c2 ?k2 ?app _ (Nat.lt_of_sub_pos (by exact Nat.succ_pos _)) rfl rfl rfl ?fin
        case c1 =>
          refine HAL.out.mono ?_
          rintro e w2 ⟨bx, aA, cA, ks, rfl, k1, k2, k3, k4, k5, k6⟩
          have e1 : ks = Lf i := rising_unique k3 HR1.out (fun x => by rw [k4 x, HR2.out x])
          have hle : ks.length ≤ 4398046510976 := by have := List.Nodup.length_le_of_subset (rising_nd k3) (fun y hy => ((k4 y).1 hy).2); have := HR3.out; omega
          subst e1
          exact ⟨bx, rfl, k6, aA, cA, k1, k2, hle⟩
        case k1 =>
          rintro bx w2 ⟨h1, _⟩
          exact ⟨cellB h1 hc0, cellB h1 hc1⟩
        case c2 =>
          rintro bx w2 ⟨h1, aA, cA, k1, k2, k3⟩
          exact collectL w2 bx aA cA (Lf i) (Lf i) k1 k2 k3 rfl
        case k2 =>
          rintro bx w2 ak ck w3 ⟨h1, _⟩ ⟨_, h3⟩
          have hb : Below wr.drew.heap.size wr.drew w3 := h1.trans (h3.mono h1.size)
          exact ⟨⟨cellB hb hc0, cellB hb hc1⟩, ⟨cellB (hb.alloc hb.size _) hc0, cellB (hb.alloc hb.size _) hc1⟩⟩
        case app =>
          rintro bx w2 ak ck w3 ⟨h1, _⟩ ⟨h2, h3⟩
          have hb : Below wr.drew.heap.size wr.drew w3 := h1.trans (h3.mono h1.size)
          have ha : Below w3.heap.size w3 (w3.alloc (.cells (seV ⟨i, v.busy, ak, ck, Lf i⟩).toArray 80)) := (Below.refl _ _).alloc (Nat.le_refl _) _
          have hS4 := (HSd.out.below hb).below ha
          have hP4 := (HPd.out.below hb).below ha
          have hb2s : w.heap.size ≤ w2.heap.size := Nat.le_trans HSd.out.bel.size h1.size
          obtain ⟨v5, w5, hr, hl5, hg5⟩ := run_appendS _ w.heap.size (.slice am mm cap) E hS4.row w3.heap.size ⟨i, v.busy, ak, ck, Lf i⟩ (Blk.made w3 _ _) (by have := HSd.out.few; omega) hS4.bel.size ((ownQ_lower h2 hb2s).below ha) (fun q hq x y hx hy => by
            have q1 := (ownQ_lt ((HSd.out.row.below h1).keys q hq) hx).1
            have q2 := (ownQ_lt h2 hy).2
            omega) H32.out
          have hP5 := hP4.grownS hg5 (fun r e1 => by
            obtain ⟨c, fz, k1⟩ := Go.Lib.ownsRow_kind hS4.row.own r e1
            exact ⟨c, fz, k1⟩)
          refine ⟨v5, w5, hr, ⟨hS4.next HFi.out rfl hl5 hg5, hP5⟩, ?_⟩
          have hse := hP5.sel (i : Int) v HSEL.out
          exact ⟨by rw [hse.blk.cell]; rfl, by rw [hse.blk.cell]; rfl⟩
        case fin =>
          rintro bx w2 - ak ck w3 - v5 w5 ⟨hS5, hP5⟩
          obtain ⟨am5, cap5, hf5, _⟩ := hS5.row.form
          subst hf5
          have HS6 := hide hS5
          have HP6 := hide hP5
          simp only [Act.put, List.setIfInBounds_toArray, List.set_cons_zero, List.set_cons_succ]
          generalize (E ++ [(⟨i, v.busy, ak, ck, Lf i⟩ : SeV)]).length = m5 at *
          clear hS5 hP5 hc0 hc1 HAL HSd HPd HAT' H32 HFi HF
          go_wp2
          exact ⟨⟨i + 1, _, am5, m5, cap5, by go_num, by omega, rfl, HS6.out, HP6.out⟩, by simp [intOf]; omega⟩
    · have hii : ¬ (i : Int) < 16 := by omega
      have HS := hide hS
      have hE : i = 16 := by omega
      have HE := hide hE
      clear hS hP hE
      go_wp2
      go_ret
      refine ⟨_, E, rfl, HS.out.row, by rw [← HE.out]; exact HS.out.tell, HS.out.bel⟩
end Go.Proofs.Ytagnglkkmdeicaa
