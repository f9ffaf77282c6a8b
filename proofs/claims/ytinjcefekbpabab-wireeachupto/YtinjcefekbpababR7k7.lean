/- took, of a signed number. -/
import Derived.Test.YtinjcefekbpababR7
namespace Go.Proofs.Ytinjcefekbpabab
set_option linter.unusedVariables false
set_option linter.unusedSimpArgs false
open Go.RowKit

set_option maxRecDepth 20000 in
set_option maxHeartbeats 1600000 in
theorem took_7 (w : World) (y : Nat) (rv : Value) (bs : List UInt8) (s : S) (most : Nat) (n : Int) (hlen : bs.length ≤ 140737488351232) (h : RefSt w y rv bs s) :
    Calls Try.prog 22 #[.pointer (some ⟨y, 0, none⟩), .agg #[.int .i64 7, .int .u64 most, .int .i64 n]] w (TookC w y rv bs (IntKind.u64.wrap (wrapU .i16 ((mNext bs s (mPlace s) 2).1.getD [])), [], (mNext bs s (mPlace s) 2).2)) := by
  have hz := h.lt
  have HSV := hide (fun b cap => h.1.blk (b := b) (cap := cap))
  have HC := hide (fun W hW => rfixed_st W y rv bs s 2 hW (by omega) (by omega))
  have hxl := mNext_few bs s (mPlace s) 2
  generalize mNext bs s (mPlace s) 2 = r at HC hxl ⊢
  have hb := leNat_lt _ 2 hxl
  rw [show (256 : Nat) ^ 2 = 65536 from by decide] at hb
  have HV := hide (sgn_2 (leNat (r.1.getD [])) hb)
  have HS := hide (fun w R hR => signed_any w (leNat (r.1.getD [])) 2 R (by omega) (by omega) hR)
  have hbox : Blk (boxes w 7 most n) w.heap.size #[.int .i64 7, .int .u64 most, .int .i64 n] 61 := (Blk.made w _ _).alloc _
  have HBX := hide hbox
  have HBR := hide (boxes_ref h 7 most n)
  clear hbox hb hxl
  go_enter Try.func22, Try.ntmps22
  go_wp2_with fail
  go_region_with (first | (go_at_call 60; refine (lwidth_7 _).mono ?_; rintro e w' ⟨rfl, rfl⟩) | (go_at_call 61; refine (HS.out _ _ HV.out).mono ?_; rintro e w' ⟨rfl, rfl⟩) | (go_at_call 59; refine (HC.out _ (by exact HBR.out)).mono ?_; rintro e w1 ⟨rfl, hd, hg0⟩; have hg : (boxes w 7 most n).grownBy w1 (some y) := ⟨hg0.os, hg0.tape, hg0.output, hg0.size, hg0.block⟩; have hk := boxes_res 7 most n hz hg; have c0 := hk.cell 0; have c1 := hk.cell 1; have f0 := hk.frozen 0; have f1 := hk.frozen 1; have b0 := (HBX.out.grown hg (fun e => by have := Option.some.inj e; omega)).cell 0; clear hg0))
  all_goals
    go_wp2
    have he := took_end (.int .u64 (IntKind.u64.wrap (IntKind.i16.wrap (leNat (r.1.getD []) : Nat)))) (.string ⟨#[]⟩) hz HSV.out hd (boxes_grown hg) hk
    refine bodyPost_ret (results_cell rfl _ _ _ rfl _ he.1) rfl ?_
    exact ⟨rfl, he.2.1, he.2.2⟩

end Go.Proofs.Ytinjcefekbpabab
