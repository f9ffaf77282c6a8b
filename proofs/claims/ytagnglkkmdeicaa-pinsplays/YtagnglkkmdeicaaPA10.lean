/- The document's Sessions. -/
import Derived.Test.YtagnglkkmdeicaaPA9
namespace Go.Proofs.Ytagnglkkmdeicaa
set_option linter.unusedVariables false
set_option linter.unusedSimpArgs false
open Go.RowKit Go.Shelf
set_option maxRecDepth 100000

theorem krow_flat {w : World} {g o : Nat} {L : List (List UInt8)} (h : KRow w (some ⟨g, o, none⟩) L) : ∀ j u, (rowQ L)[j]? = some u → w.cell? ((⟨g, o, none⟩ : Addr).add j) = some u := by
  intro j u hj
  have hl : (rowQ L).length = L.length * 32 := by
    have : ∀ (M : List (List UInt8)), (∀ k ∈ M, k.length = 32) → (rowQ M).length = M.length * 32 := by
      intro M
      induction M with
      | nil => intro _; rfl
      | cons k r ih =>
        intro hk
        rw [show rowQ (k :: r) = k.map u8c ++ rowQ r from rfl, List.length_append, List.length_map, hk k (by simp), ih (fun q hq => hk q (by simp [hq])), List.length_cons]
        omega
    exact this L h.len
  have hjl : j < L.length * 32 := by rw [← hl]; exact (List.getElem?_eq_some_iff.1 hj).1
  have hi : j / 32 < L.length := by omega
  obtain ⟨g', o', e, hr⟩ := h.at' (j / 32) hi
  cases e
  have h2 := rowQ_get L h.len (j / 32) (j % 32) hi (by omega)
  rw [show j / 32 * 32 + j % 32 = j by omega, hj] at h2
  have h3 := hr (j % 32) u h2.symm
  rw [Addr.add_mid]
  rw [show o + j = o + j / 32 * 32 + j % 32 by omega]
  exact h3
theorem rowQ_len {L : List (List UInt8)} (h : ∀ k ∈ L, k.length = 32) : (rowQ L).length = L.length * 32 := by
  induction L with
  | nil => rfl
  | cons k r ih =>
    rw [show rowQ (k :: r) = k.map u8c ++ rowQ r from rfl, List.length_append, List.length_map, h k (by simp), ih (fun q hq => h q (by simp [hq])), List.length_cons]
    omega
theorem rowQ_one (L : List (List UInt8)) : ∀ v ∈ rowQ L, v.oneCell' = true := by
  intro v hv
  obtain ⟨k, _, hk⟩ := List.mem_flatMap.1 hv
  exact u8c_one k v hk
/-- A whole row is appended to nothing. -/
theorem wpList_appendL {ops : Array Oper} {rest : List Oper} {o : Oper} {a : Act} {w : World} {Q : Exit → Act → World → Prop} (hgd : o.guard = none) (s x : Operand) (ho : o.op = .call { callee := .builtin .append, args := #[s, x], argTypes := #[42, 42] })
    (ao : Option Addr) (cap : Nat) (L : List (List UInt8)) (hs : a.eval s = .slice none 0 0) (hx : a.eval x = .slice ao L.length cap) (hr : KRow w ao L) (hnil : L = [] → ao = none ∧ cap = 0) (hlen : L.length ≤ 4398046511104)
    (h : ∀ ak ck w', Hid (OwnQ w' w.heap.size (.slice ak L.length ck) L) → Hid (Below w.heap.size w w') → wpList Try.prog ops Q rest (a.put o.dst (.slice ak L.length ck)) w') : wpList Try.prog ops Q (o :: rest) a w := by
  cases L with
  | nil =>
    obtain ⟨rfl, rfl⟩ := hnil rfl
    refine wpList_plain hgd fun K hK => ?_
    have hr0 : (Builtin.append_ #[42, 42] o.type #[.slice none 0 0, .slice none 0 0]).run Try.prog w = .ok (.slice none 0 0) w := by
      have hu := Try.underlying42
      have hz : ∀ w, (sizeOf 30).run Try.prog w = .ok 32 w := fun w => by kernel_rfl
      simp [Builtin.append_, go_sem, hu, hz]
    unfold Oper.wp execOp
    simp only [ho, resolve, invoke, builtin, Sem.run_bind, Sem.run_pure, Result.andThen_ok, List.map_toArray, List.map_cons, List.map_nil, hs, hx, List.length_nil, hr0]
    exact hK _ _ (h none 0 w (hide (World.ownsRow_nil _ _ _ _)) (hide (Below.refl _ _)))
  | cons k r =>
    obtain ⟨g, o', e, _⟩ := hr.at' 0 (by simp)
    subst e
    obtain ⟨i0, hi, hz0, hz1, hz2⟩ := infoKeyQ
    refine wpList_append_own_at w hgd s x 42 ho w.heap.size 30 i0 (.agg keyZ) 32 32 Try.underlying42 hi hz0 hz1 hz2 rfl (by decide) (.slice none 0 0) 0 [] hs (World.ownsRow_nil _ _ _ _) ⟨g, o', none⟩ (k :: r).length cap (rowQ (k :: r)) hx (rowQ_len hr.len) (krow_flat hr) (rowQ_one _) (by unfold maxLen; omega) (by omega) (Nat.le_refl _) ?_
    intro v' w' h1 h2 _ _
    rw [Nat.zero_add, List.nil_append] at h1
    obtain ⟨ak, ck, rfl, _⟩ := OwnQ.form (ks := k :: r) h1
    exact h ak ck w' (hide h1) (hide ⟨h2.os, h2.tape, h2.output, h2.size, fun i hi => h2.block i hi (by simp [Value.ownBlock])⟩)
def fD (D : List RfV) (k : Nat) : Option (Nat × List (List UInt8)) := (D[k]?).bind fun d => if d.op = true then some (d.busy, d.L) else none
theorem RfAt.grownS {w w' : World} {zr : Nat} {D : List RfV} {row : Option Nat} (h : RfAt w zr D) (hg : w.grownBy w' row) (hz : some zr ≠ row) (hr : ∀ (s : Nat) (d : RfV), D[s]? = some d → ∀ a : Addr, d.ao = some a → some a.block ≠ row) : RfAt w' zr D :=
  ⟨h.blk.grown hg hz, h.len, fun s d e => ⟨fun i hi => by
    obtain ⟨g, o, ea, hra⟩ := (h.row s d e).at' i hi
    refine ⟨g, o, ea, fun j v hj => ?_⟩
    have h1 := hra j v hj
    rw [← h1]
    unfold World.cell?
    simp only
    rw [hg.block g (World.block_lt_of_cell? w _ h1) (hr s d e _ ea)], (h.row s d e).len⟩, h.far⟩
set_option maxHeartbeats 4000000 in
theorem rsessions_any (w : World) (zr : Nat) (D : List RfV) (h : RfAt w zr D) (hl : ∀ (k : Nat) (d : RfV), D[k]? = some d → d.L.length ≤ 4398046510976) (hnil : ∀ (k : Nat) (d : RfV), D[k]? = some d → d.L = [] → d.ao = none ∧ d.cap = 0) (hlt0 : ∀ (k : Nat) (d : RfV), D[k]? = some d → ∀ a : Addr, d.ao = some a → a.block < w.heap.size) : Calls Try.prog 42 #[.pointer (some ⟨zr, 0, none⟩)] w (SesC w (fD D)) := by
  have HR : Hid (∀ W, Below w.heap.size w W → RfAt W zr D) := hide (fun W hb => h.below hb)
  have HLL := hide hl
  have HNI := hide hnil
  have HLN := hide h.len
  clear h hl hnil hlt0
  go_enter Try.func42, Try.ntmps42
  go_wp2
  go_loopw [3, 4] (fun t u wr => ∃ (i : Nat) (E : List SeV) (am : Option Addr) (mm cap : Nat), u = .int .i64 i ∧ i ≤ 16 ∧ t = .slice am mm cap ∧ SeL w (fD D) i (.slice am mm cap) E wr) (fun _ u _ => 16 - (intOf u).toNat)
  case atStart => exact ⟨0, [], none, 0, 0, rfl, by omega, rfl, ⟨LstS.nil _ _, rfl, Nat.le_refl _, Below.refl _ _⟩⟩
  case round =>
    obtain ⟨i, E, am, mm, cap, rfl, hi, rfl, hS⟩ := hrel
    by_cases hlt : i < 16
    · have hii : (i : Int) < 16 := by omega
      obtain ⟨d, hd⟩ : ∃ d, D[i]? = some d := ⟨_, List.getElem?_eq_getElem (by rw [HLN.out]; exact hlt)⟩
      have hR := HR.out wr hS.bel
      have hco := hR.cO hd
      have hcb := hR.cB hd
      have hck := hR.cK hd
      have HS := hide hS
      have HF : Hid (fD D i = if d.op = true then some (d.busy, d.L) else none) := hide (by unfold fD; rw [hd]; rfl)
      have HKR := hide (hR.row i d hd)
      have HN2 := hide (HNI.out i d hd)
      have HL2 : Hid (d.L.length ≤ 4398046511104) := hide (by have := HLL.out i d hd; omega)
      clear hS hR hd
      cases ho : d.op with
      | false =>
        rw [ho] at hco HF
        clear ho hcb hck
        go_wp2
        exact ⟨⟨i + 1, E, am, mm, cap, by go_num, by omega, rfl, HS.out.skip HF.out⟩, by simp [intOf]; omega⟩
      | true =>
        rw [ho] at hco HF
        clear ho
        obtain ⟨b, hb⟩ : ∃ b, b = d.busy := ⟨_, rfl⟩
        obtain ⟨L, hL⟩ : ∃ L, L = d.L := ⟨_, rfl⟩
        obtain ⟨ao, hao⟩ : ∃ ao, ao = d.ao := ⟨_, rfl⟩
        obtain ⟨dc, hdc⟩ : ∃ dc, dc = d.cap := ⟨_, rfl⟩
        rw [← hb] at hcb HF
        rw [← hL] at hck HF HKR HN2 HL2
        rw [← hao] at hck HKR HN2
        rw [← hdc] at hck HN2
        have H32 : Hid (∀ x ∈ L, x.length = 32) := hide HKR.out.len
        clear hb hL hao hdc
        go_upto_region 8 with ((with_reducible refine wpList_appendL ?_ (.tmp 16) (.tmp 22) ?_ ao dc L ?_ ?_ HKR.out HN2.out HL2.out ?_); rfl; rfl; rfl; rfl; intro ak ck w3 HO3 HB3)
        have hS3 := HS.out.below HB3.out
        have HS3 := hide hS3
        have hcb3 := cellB HB3.out hcb
        go_wp2_with ((with_reducible refine wpList_buildSe (.tmp 25) (.tmp 31) (.tmp 32) ⟨i, b, ak, ck, L⟩ ?_ ?_ ?_ ?_ ?_ ?_); rfl; rfl; rfl; rfl; rfl; generalize hG : wpList _ _ _ _ _ _ = G)
        obtain ⟨e, he⟩ : ∃ e : SeV, e = ⟨i, b, ak, ck, L⟩ := ⟨_, rfl⟩
        have HUP : Hid (∀ q ∈ E, ∀ x y : Addr, q.ka = some x → e.ka = some y → x.block < y.block) := hide (fun q hq x y hx hy => by
          rw [he] at hy
          have h1 := (ownQ_lt (HS.out.row.keys q hq) hx).1
          have h2 := (ownQ_lt HO3.out hy).2
          omega)
        have HOQ : Hid (OwnQ w3 w.heap.size (.slice e.ka e.xs.length e.kc) e.xs) := hide (by rw [he]; exact ownQ_lower HO3.out HS.out.bel.size)
        have H322 : Hid (∀ x ∈ e.xs, x.length = 32) := hide (by rw [he]; exact H32.out)
        have HFe : Hid (fD D i = some (e.busy, e.xs)) := hide (by rw [he]; exact HF.out)
        have HNe : Hid (e.num = i) := hide (by rw [he])
        have HW4 : Hid (∀ W4, W4 = w3.alloc (.cells (seV e).toArray 80) → SeL w (fD D) i (.slice am mm cap) E W4 ∧ Blk W4 w3.heap.size (seV e).toArray 80 ∧ OwnQ W4 w.heap.size (.slice e.ka e.xs.length e.kc) e.xs) := hide (fun W4 hW4 => by
          subst hW4
          have ha : Below w3.heap.size w3 (w3.alloc (.cells (seV e).toArray 80)) := (Below.refl _ _).alloc (Nat.le_refl _) _
          exact ⟨hS3.below ha, Blk.made w3 _ _, HOQ.out.below ha⟩)
        have HL5 : Hid (E.length + 1 ≤ 1000) := hide (by have := hS3.few; omega)
        have HBS : Hid (w.heap.size ≤ (w3.alloc (.cells (seV e).toArray 80)).heap.size) := hide (HW4.out _ rfl).1.bel.size
        rw [← he] at hG
        subst hG
        clear hS3 hco hcb hck HS HKR HN2 HL2 HO3 HB3 he H32 HF HOQ
        go_wp2_with (first | ((with_reducible refine wpList_bsS (.tmp 33) e ?_ ?_ ?_ ?_); rfl; rfl; rfl) | ((with_reducible refine wpList_appendS ?_ (.tmp 24) (.tmp 34) ?_ w.heap.size (.slice am mm cap) E ?_ (HW4.out _ rfl).1.row w3.heap.size ?_ e (HW4.out _ rfl).2.1 HL5.out HBS.out (HW4.out _ rfl).2.2 HUP.out H322.out ?_); rfl; rfl; rfl; rfl; intro v5 w5 HL6 HG6; have HS6 := hide ((HW4.out _ rfl).1.next HFe.out HNe.out HL6.out HG6.out); obtain ⟨am5, cap5, hf5, hq5⟩ := HL6.out.form; subst hf5; clear HL6 HG6 hq5))
        refine ⟨⟨i + 1, E ++ [e], am5, _, cap5, by go_num, by omega, rfl, ?_⟩, by simp [intOf]; omega⟩
        have h6 := HS6.out
        rw [List.length_append, List.length_singleton] at h6
        exact h6
    · have hii : ¬ (i : Int) < 16 := by omega
      have HS := hide hS
      have hE : i = 16 := by omega
      have HE := hide hE
      clear hS hE
      go_wp2
      go_ret
      refine ⟨_, E, rfl, HS.out.row, by rw [← HE.out]; exact HS.out.tell, HS.out.bel⟩
end Go.Proofs.Ytagnglkkmdeicaa
