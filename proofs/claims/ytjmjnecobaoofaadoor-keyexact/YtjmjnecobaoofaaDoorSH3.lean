/- What Write does to what waits: copied in, cleared, loaded. -/
import Derived.Test.YtjmjnecobaoofaaDoorSH2
namespace Go.Proofs.YtjmjnecobaoofaaDoor
set_option linter.unusedVariables false
set_option linter.unusedSimpArgs false
open Go.RowKit

theorem HB.setW {w : World} {z : Nat} {t : TypeId} {pre post s : List Value} {g : Bool} {W : List UInt8} {n : Nat} (h : HB w z t pre post s g W n) (A seg B news : List UInt8) (hW : W = A ++ (seg ++ B)) (hl : news.length = seg.length) :
    HB (w.setRow z ((pre ++ (hlist s g W n ++ post)).take (pre.length + 9 + A.length) ++ news.map u8c ++ (pre ++ (hlist s g W n ++ post)).drop (pre.length + 9 + A.length + news.length)).toArray) z t pre post s g (A ++ (news ++ B)) n ∧
    w.grownBy (w.setRow z ((pre ++ (hlist s g W n ++ post)).take (pre.length + 9 + A.length) ++ news.map u8c ++ (pre ++ (hlist s g W n ++ post)).drop (pre.length + 9 + A.length + news.length)).toArray) (some z) := by
  have e : pre ++ (hlist s g W n ++ post) = (pre ++ (s ++ (.bool g :: A.map u8c))) ++ (seg.map u8c ++ (B.map u8c ++ ([.int .u64 (n : Int)] ++ post))) := by rw [hW]; simp [hlist]
  have hA : (pre ++ (s ++ (.bool g :: A.map u8c))).length = pre.length + 9 + A.length := by simp [h.sl]; omega
  have hb := h.blk
  rw [e] at hb ⊢
  have := setRow_mid hb (news.map u8c) (by simp [hl])
  rw [hA, List.length_map] at this
  refine ⟨⟨?_, h.sl, by rw [← h.wl, hW]; simp [hl], h.one⟩, this.2⟩
  have e2 : pre ++ (hlist s g (A ++ (news ++ B)) n ++ post) = (pre ++ (s ++ (.bool g :: A.map u8c))) ++ (news.map u8c ++ (B.map u8c ++ ([.int .u64 (n : Int)] ++ post))) := by simp [hlist]
  rw [e2]
  exact this.1
/-- copy into what waits. -/
theorem wpList_copy_hw {ops : Array Oper} {rest : List Oper} {o : Oper} {a : Act} {w : World} {Q : Exit → Act → World → Prop} (hgd : o.guard = none) (d s : Operand)
    (ho : o.op = .call { callee := .builtin .copy, args := #[d, s], argTypes := #[22, 22] })
    (z : Nat) (t : TypeId) (pre post sc : List Value) (g : Bool) (W : List UInt8) (n : Nat) (hH : HB w z t pre post sc g W n) (A seg B ck : List UInt8) (hW : W = A ++ (seg ++ B)) (hl : ck.length = seg.length)
    (dl dc sb so sl sca : Nat) (hd : a.eval d = .slice (some ⟨z, pre.length + 9 + A.length, none⟩) dl dc) (hs : a.eval s = .slice (some ⟨sb, so, none⟩) sl sca) (hn : ck.length = Nat.min sl dl)
    (hsrc : ∀ i (h : i < ck.length), w.cell? ⟨sb, so + i, none⟩ = some (u8c ck[i]))
    (h : ∀ w', Hid (HB w' z t pre post sc g (A ++ (ck ++ B)) n) → Hid (w.grownBy w' (some z)) → wpList Tryd.prog ops Q rest (a.put o.dst (goInt ck.length)) w') : wpList Tryd.prog ops Q (o :: rest) a w := by
  refine wpList_plain hgd fun K hK => ?_
  have hfit : pre.length + 9 + A.length + (ck.map u8c).length ≤ (pre ++ (hlist sc g W n ++ post)).toArray.size := by
    have h1 := HB.len (g := g) (n := n) hH.sl hH.wl
    have h2 : A.length + ck.length ≤ 64 := by rw [← hH.wl, hW, hl]; simp
    simp only [List.length_map, List.size_toArray, List.length_append]
    omega
  have hrun := run_copy_row (P := Tryd.prog) w 22 22 o.type 5 z (pre.length + 9 + A.length) dl dc ⟨sb, so, none⟩ sl sca (pre ++ (hlist sc g W n ++ post)).toArray t (ck.map u8c) Tryd.underlying22 infoU8s hH.blk (by simpa using hn)
    (fun j v hj => by rw [Addr.add_mid]; exact rangeRd hsrc j v hj) hfit (u8c_one ck)
  have hs2 := hH.setW A seg B ck hW hl
  have hh := h _ (hide hs2.1) (hide hs2.2)
  simp only [List.length_map] at hrun
  unfold Oper.wp
  simp [execOp, ho, resolve, invoke, builtin, hd, hs, hrun, Result.andThen]
  refine hK _ _ ?_
  simpa using hh
theorem run_clear64 (w : World) (ty : TypeId) (z o : Nat) (t : TypeId) (cur : Array Value) (hg : Blk w z cur t) (hl : o + 64 ≤ cur.size) (zs : List Value) (hzs : zs = List.replicate 64 (Value.int .u8 0)) :
    (Builtin.clear_ #[22] ty #[.slice (some ⟨z, o, none⟩) 64 64]).run Tryd.prog w = .ok (.tuple #[]) (w.setRow z (cur.toList.take o ++ zs ++ cur.toList.drop (o + 64)).toArray) := by
  have hz : (zeroValue 5).run Tryd.prog w = .ok (.int .u8 0) w := by kernel_rfl
  have hzl : zs.length = 64 := by rw [hzs]; exact List.length_replicate
  have hst := run_storeCells_at Tryd.prog z o t zs 0 cur w hg (by simpa [hzl] using hl) (fun v hv => by rw [hzs] at hv; rw [(List.mem_replicate.1 hv).2]; rfl)
  have hzc : (Builtin.zeroCells (Value.int .u8 0).cells 64).toList = zs := by rw [hzs]; kernel_rfl
  simp only [Nat.add_zero, hzl] at hst
  clear hzs
  simp only [Builtin.clear_, Sem.run_bind, List.getElem?_toArray, List.getElem?_cons_zero, run_underlying Tryd.underlying22, Result.andThen_ok, hz, hzc, hst, Sem.run_pure]
/-- What waits is cleared. -/
theorem wpList_clear_hw {ops : Array Oper} {rest : List Oper} {o : Oper} {a : Act} {w : World} {Q : Exit → Act → World → Prop} (hgd : o.guard = none) (d : Operand)
    (ho : o.op = .call { callee := .builtin .clear, args := #[d], argTypes := #[22] })
    (z : Nat) (t : TypeId) (pre post sc : List Value) (g : Bool) (W : List UInt8) (n : Nat) (hH : HB w z t pre post sc g W n) (hd : a.eval d = .slice (some ⟨z, pre.length + 9, none⟩) 64 64)
    (h : ∀ w', Hid (HB w' z t pre post sc g (List.replicate 64 0) n) → Hid (w.grownBy w' (some z)) → wpList Tryd.prog ops Q rest (a.put o.dst (.tuple #[])) w') : wpList Tryd.prog ops Q (o :: rest) a w := by
  refine wpList_plain hgd fun K hK => ?_
  have hl : pre.length + 9 + 64 ≤ (pre ++ (hlist sc g W n ++ post)).toArray.size := by
    have h1 := HB.len (g := g) (n := n) hH.sl hH.wl
    simp only [List.size_toArray, List.length_append]
    omega
  obtain ⟨zs, hzs⟩ : ∃ zs : List Value, zs = List.replicate 64 (Value.int .u8 0) := ⟨_, rfl⟩
  have hrun := run_clear64 w o.type z (pre.length + 9) t _ hH.blk hl zs hzs
  have hs2 := hH.setW [] W [] (List.replicate 64 0) (by simp) (by rw [hH.wl]; simp)
  simp only [List.length_nil, Nat.add_zero, List.length_replicate, List.nil_append, List.append_nil, List.map_replicate] at hs2
  rw [show u8c 0 = Value.int .u8 0 from rfl, ← hzs] at hs2
  have hh := h _ (hide hs2.1) (hide hs2.2)
  unfold Oper.wp
  simp [execOp, ho, resolve, invoke, builtin, hd, hrun, Result.andThen]
  refine hK _ _ ?_
  simpa using hh
end Go.Proofs.YtjmjnecobaoofaaDoor
