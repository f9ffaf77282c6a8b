/- BloomOpens, walked. -/
import Derived.Test.YtbemmhngadpjcaaFO0
namespace Go.Proofs.Ytbemmhngadpjcaa
set_option linter.unusedVariables false
set_option linter.unusedSimpArgs false
open Go.RowKit

def TruC (w : World) (e : Ending) (w' : World) : Prop := e = .returned (.bool true) ∧ Below w.heap.size w w'
theorem bstep {a b c : World} (h : Below a.heap.size a b) (k : Below b.heap.size b c) : Below a.heap.size a c := h.trans (k.mono h.size)
theorem strNeq (s : ByteArray) (t : TypeId) (w : World) : (binOp .neq t (.string s) (.string s)).run Try.prog w = .ok (.bool false) w := by
  simp [binOp, Op.stringOp]
theorem strEql (s : ByteArray) (t : TypeId) (w : World) : (binOp .eql t (.string s) (.string s)).run Try.prog w = .ok (.bool true) w := by
  simp [binOp, Op.stringOp]
/-- A row of bytes of one's own, whatever they are. -/
def AnyRow (w : World) (B : Nat) (ao : Option Addr) (n cap : Nat) : Prop := ∃ ys, w.ownsRow B 5 1 (.slice ao n cap) n ys ∧ ∀ y ∈ ys, ∃ q, y = .int .u8 q
theorem AnyRow.form {w : World} {B : Nat} {ao : Option Addr} {n cap : Nat} (h : AnyRow w B ao n cap) (h0 : 0 < n) : ∃ g, ao = some ⟨g, 0, none⟩ := by
  obtain ⟨ys, ⟨hl, ⟨e, e2⟩ | ⟨g, cap', cur, e, _⟩⟩, _⟩ := h
  · omega
  · cases e; exact ⟨g, rfl⟩
set_option maxRecDepth 20000 in
set_option maxHeartbeats 8000000 in
theorem opens_law (w : World) (v : Value) (xs : List UInt8) (hv : RdA w v xs) (hlen : xs.length ≤ 140737488355000) : Calls Try.prog 7 #[v] w (TruC w) := by
  have HV := hide hv
  obtain ⟨ao, c0, hvs, -⟩ := hv.slice
  subst hvs
  clear hv
  go_enter Try.func7, Try.ntmps7
  go_wp2_with (at_builtin; refine wpList_append_rdX rfl _ _ rfl w.heap.size _ _ [] xs rfl (World.ownsRow_nil _ _ _ _) rfl HV.out ?e1 ?e2 ?_)
  case e1 => simp; omega
  case e2 => omega
  intro vi w1 HO HG HL
  have hO : OwnsB w1 w.heap.size vi xs := by have := HO.out; simpa using this
  have hB1 : Below w.heap.size w w1 := ⟨HG.out.os, HG.out.tape, HG.out.output, HG.out.size, fun k hk => HG.out.block k hk (by simp [Value.ownBlock])⟩
  have HB1 := hide hB1
  have HV1 := hide (HV.out.below hB1)
  have HO1 := hide hO
  have HR1 : Hid (RdA w1 vi xs) := hide (.inl (Rd_owned hO))
  obtain ⟨io, ic, hvi⟩ : ∃ io ic, vi = .slice io xs.length ic := by
    obtain ⟨a, c, e, _⟩ := HR1.out.slice
    exact ⟨a, c, e⟩
  subst hvi
  have hsL : ∀ b, (Value.slice io xs.length ic).ownBlock = some b → b < w1.heap.size := fun b hb => (owns_lt hO b hb).2
  have HSL := hide hsL
  clear hO hB1 HO HG HL hsL
  go_wp2_with fail
  refine (fopen_any w1 _ xs HR1.out hlen).mono ?_
  rintro e w2 hopen
  -- the document's
  have key : Below w1.heap.size w1 w2 := by
    rcases hopen with ⟨_, _, hb⟩ | ⟨_, _, _, _, _, _, _, hb⟩ <;> exact hb
  have HB2 := hide (bstep HB1.out key)
  have HV2 := hide (HV1.out.below key)
  have HR2 := hide (HR1.out.below key)
  have HO2 := hide (owns_below HO1.out key)
  have hcI : ∀ W, Below w2.heap.size w2 W → (convert 49 9 (.slice io xs.length ic)).run Try.prog W = .ok (.string ⟨xs.toArray⟩) W := fun W hb => conv_rdA W _ xs (HR2.out.below hb)
  have hcV : ∀ W, Below w2.heap.size w2 W → (convert 49 9 (.slice ao xs.length c0)).run Try.prog W = .ok (.string ⟨xs.toArray⟩) W := fun W hb => conv_rdA W _ xs (HV2.out.below hb)
  have HCI := hide hcI
  have HCV := hide hcV
  obtain ⟨s, hs⟩ : ∃ s : ByteArray, s = ⟨xs.toArray⟩ := ⟨_, rfl⟩
  rw [← hs] at HCI HCV
  have sn := strNeq s
  have se := strEql s
  have HS := hide hs
  clear hcI hcV HB1 HV1 HR1 HO1 hs
  rcases hopen with ⟨hno, rfl, -⟩ | ⟨hok, z, g, rfl, hf, hz, hg, -⟩
  · have HN := hide hno
    clear hno key
    go_wp2_with fail
    refine (rfopen_any w2 _ xs HV2.out).mono ?_
    rintro e w3 hro
    rcases hro with ⟨-, rfl, hb3⟩ | ⟨hok, _⟩
    · have c1 := HCI.out w3 hb3
      have c2 := HCV.out w3 hb3
      have HB3 := hide (bstep HB2.out hb3)
      clear hb3
      go_wp2_with (first | simp only [c1, c2, sn])
      go_ret
      exact ⟨rfl, HB3.out⟩
    · exact absurd hok HN.out
  · have HOk := hide hok
    have HF := hide hf
    have hzl : w1.heap.size ≤ z := hz
    have hgl : w1.heap.size ≤ g := hg
    clear hok hf key
    go_wp2_with fail
    refine (rfopen_any w2 _ xs HV2.out).mono ?_
    rintro e w3 hro
    rcases hro with ⟨hno, _⟩ | ⟨-, zr, rfl, hb3⟩
    · exact absurd HOk.out hno
    · have c1 := HCI.out w3 hb3
      have c2 := HCV.out w3 hb3
      have HB3 := hide (bstep HB2.out hb3)
      have HV3 := hide (HV2.out.below hb3)
      have HF3 := hide (HF.out.below hb3)
      have HA3 : Hid (AnyRow w3 w.heap.size io xs.length ic) := hide ⟨_, owns_below HO2.out hb3, fun y hy => by
        obtain ⟨u, _, rfl⟩ := List.mem_map.1 hy
        exact ⟨_, rfl⟩⟩
      clear hb3 HO2 HR2
      go_wp2_with (first | simp only [c1, c2, sn])
      go_loopw [7] (fun s7 wr => ∃ k : Nat, s7 = .int .i64 k ∧ k ≤ xs.length ∧ AnyRow wr w.heap.size io xs.length ic ∧ FilAt wr z g (hF xs) (wsF xs (cntF xs)) ∧ Below w.heap.size w wr) (fun s7 _ => xs.length - (intOf s7).toNat)
      case atStart => exact ⟨0, rfl, by omega, HA3.out, HF3.out, HB3.out⟩
      case round =>
        obtain ⟨k, rfl, hk, hA, hFr, hBr⟩ := hrel
        have HFr := hide hFr
        have HBr := hide hBr
        clear hFr hBr
        by_cases hlt : k < xs.length
        · have hki : (k : Int) < xs.length := by omega
          obtain ⟨gi, hgi⟩ := hA.form (by omega)
          subst hgi
          obtain ⟨ys, hy1, hy2⟩ := hA
          obtain ⟨⟨q, hq⟩, hfz, hgb⟩ := own_cell hy1 hy2 k hlt
          have hgl1 : gi < w1.heap.size := HSL.out gi rfl
          have HY := hide (fun q' => own_set hy1 hy2 k hlt q')
          clear hy1 hy2
          obtain ⟨q2, hq2⟩ : ∃ q2, q2 = bits .xor .u8 q 255 := ⟨_, rfl⟩
          have hq2' : bits .xor .u8 q 255 = q2 := hq2.symm
          clear hq2
          go_wp2
          obtain ⟨ys', h1, h2⟩ := HY.out q2
          refine ⟨⟨k + 1, by go_num, by omega, ⟨ys', h1, h2⟩, HFr.out.grown (grownBy_set _ gi k _) (fun e => by have := Option.some.inj e; omega) (fun e => by have := Option.some.inj e; omega), HBr.out.setCell (p := ⟨gi, k, none⟩) hgb _⟩, by simp [intOf]; omega⟩
        · have hki : ¬ (k : Int) < xs.length := by omega
          have HBack := hide (bytes_back xs HOk.out)
          have HFd : Hid (FilAt wr.drew z g (hF xs) (wsF xs (cntF xs))) := hide ⟨HFr.out.zb, HFr.out.gb, HFr.out.hh, HFr.out.hn, HFr.out.ok⟩
          have HC := hide (fbytes_any wr.drew z g (hF xs) (wsF xs (cntF xs)) HFd.out)
          rw [HBack.out] at HC
          have HVr := hide (HV.out.below HBr.out)
          clear hA c1 c2 HBack HFd
          go_wp2_with fail
          refine fo_walk _ (fun _ _ _ _ _ h => h) wr z xs _ HC.out HVr.out _ (Nat.lt_of_sub_pos (by exact Nat.succ_pos _)) rfl rfl rfl ?_
          intro v9 w9 hb9
          simp only [Act.put, List.setIfInBounds_toArray, List.set_cons_zero, List.set_cons_succ]
          go_wp2
          go_ret
          exact ⟨rfl, bstep HBr.out hb9⟩
end Go.Proofs.Ytbemmhngadpjcaa
