/- PinsPlays: what nil Pins answer. -/
import Derived.Test.YtagnglkkmdeicaaPA19
namespace Go.Proofs.Ytagnglkkmdeicaa
set_option linter.unusedVariables false
set_option linter.unusedSimpArgs false
open Go.RowKit Go.Shelf
set_option maxRecDepth 100000

theorem next_none (w : World) (s : Int) : Calls Try.prog 11 #[.pointer none, .int .i64 s, keyV zK, .bool true] w fun e w' => ∃ k : List UInt8, e = .returned (.tuple #[keyV k, .bool false]) ∧ k.length = 32 ∧ Below w.heap.size w w' := by
  refine (pnext_nil w s zK true rfl).mono ?_
  rintro e w' ⟨k, ok, h1, h2, h3, h4⟩
  rcases h3 with ⟨rfl, h3⟩ | ⟨rfl, h3⟩
  · exact absurd h3.1.2 (by simp)
  · exact ⟨k, h1, h2, h4⟩
theorem zK32 : zK.length = 32 := rfl
set_option maxHeartbeats 4000000 in
theorem nothing_any (w : World) : Calls Try.prog 8 #[] w fun e w' => e = .returned (.bool true) ∧ Below w.heap.size w w' := by
  have HX := hide (next_none w 0)
  have HOP := hide (fun W => open_nil W 0)
  have HCL := hide (fun W => close_no W none 0 1 (by decide) (opened_nil W 0))
  have HPI := hide (fun W => pin_no W none 0 1 zK (by decide) (fun W' _ => opened_nil W' 0))
  have HEN := hide (fun W => enter_no W none 0 1 (by decide) (opened_nil W 0))
  have HLE := hide (fun W => leave_no W none 0 1 (by decide) (opened_nil W 0))
  have HIS := hide (fun W => isOpen_nil W 0)
  have HHA := hide (fun W => phas_nil W 0 zK zK32)
  have HBU := hide (fun W => busy_nil W 0)
  have HCO := hide (fun W => count_nil W zK zK32)
  have HSE := hide (fun W => sessions_nil W)
  have hz := zero_key
  go_enter Try.func8, Try.ntmps8
  go_upto_region 3 with (first | ((with_reducible refine wpList_K0 ?_ ?_ ?_); rfl; rfl) | (go_at_call 11; (with_reducible refine HX.out.mono ?_); rintro e w1 ⟨k, rfl, hk32, hb1⟩; have HK32 := hide hk32; have HB1 := hide hb1; clear hk32 hb1) | ((with_reducible refine wpList_put_key ?_ (.tmp 2) (.tmp 8) ?_ w1.heap.size ?_ w1 ?_ ?_ k HK32.out ?_ ?_); rfl; rfl; rfl; rfl; rfl; rfl; intro w2 HK2 hb2))
  have HB2 : Hid (Below w.heap.size w w2) := hide (HB1.out.trans (hb2.mono HB1.out.size))
  clear HB1 hb2 HK2 HX HK32
  go_wp2_with (first | ((with_reducible refine wpList_K0 ?_ ?_ ?_); rfl; rfl) | (go_at_call 9; (with_reducible refine (HOP.out _).mono ?_); rintro e w' ⟨rfl, hw⟩; rw [hw]; clear hw) | (go_at_call 17; (with_reducible refine (HCL.out _).mono ?_); rintro e w' ⟨rfl, hw⟩; rw [hw]; clear hw) | (go_at_call 20; (with_reducible refine (HEN.out _).mono ?_); rintro e w' ⟨rfl, hw⟩; rw [hw]; clear hw) | (go_at_call 22; (with_reducible refine (HLE.out _).mono ?_); rintro e w' ⟨rfl, hw⟩; rw [hw]; clear hw) | (go_at_call 25; (with_reducible refine (HIS.out _).mono ?_); rintro e w' ⟨rfl, hw⟩; rw [hw]; clear hw) | (go_at_call 26; (with_reducible refine (HBU.out _).mono ?_); rintro e w' ⟨rfl, hw⟩; rw [hw]; clear hw) | (go_at_call 27; (with_reducible refine (HSE.out _).mono ?_); rintro e w' ⟨rfl, hw⟩; rw [hw]; clear hw) | (go_at_call 10; (with_reducible refine (HPI.out _).mono ?_); rintro e w3 ⟨rfl, hb3⟩; have HB3 := hide hb3; clear hb3) | (go_at_call 13; (with_reducible refine (HHA.out _).mono ?_); rintro e w4 ⟨rfl, hb4⟩; have HB4 := hide hb4; clear hb4) | (go_at_call 14; (with_reducible refine (HCO.out _).mono ?_); rintro e w5 ⟨rfl, hb5⟩; have HB5 := hide hb5; clear hb5))
  go_ret
  have q3 := HB2.out.trans (HB3.out.mono HB2.out.size)
  have q4 := q3.trans (HB4.out.mono q3.size)
  exact ⟨rfl, q4.trans (HB5.out.mono q4.size)⟩
end Go.Proofs.Ytagnglkkmdeicaa
