/- Of lists, as the document tells it; how many kids. -/
import Derived.Test.YtjcfndiceinkjaaDoorOC2
namespace Go.Proofs.YtjcfndiceinkjaaDoor
set_option linter.unusedVariables false
set_option linter.unusedSimpArgs false
open Go.RowKit

def partsO (L : List PartR) : Int := if tot (L.map (·.2)) 9223372036854775807 then 0 else 47
set_option maxRecDepth 20000 in
set_option maxHeartbeats 2000000 in
theorem rparts_any (w : World) (v : Value) (L : List PartR) (ok : ∀ p ∈ L, okP p) (hv : RowR w v 33 (L.map partC)) : Calls Tryd.prog 25 #[v] w fun e w' => e = .returned (.int .i64 (partsO L)) ∧ w' = w := by
  have HV := hide hv
  obtain ⟨ao, c, ev, hpl⟩ := hv.slice
  rw [List.length_map] at hpl ev
  have EV := hide ev
  rw [ev]
  obtain ⟨n, hn⟩ : ∃ n, n = L.length := ⟨_, rfl⟩
  rw [← hn] at hpl EV ⊢
  have HN := hide hn
  clear hv ev hn
  obtain ⟨T, hT⟩ : ∃ T, T = tot (L.map (·.2)) 9223372036854775807 := ⟨_, rfl⟩
  have HT := hide hT
  have HF : Hid (partsO L = if T then 0 else 47) := hide (by unfold partsO; rw [hT])
  clear hT
  go_enter Tryd.func25, Tryd.ntmps25
  go_wp2
  go_loopw [3, 4] (fun s3 s4 wr => ∃ (k sum : Nat), s3 = .int .u64 sum ∧ s4 = .int .i64 k ∧ k ≤ n ∧ sum ≤ 9223372036854775807 ∧ tot ((L.drop k).map (·.2)) (9223372036854775807 - sum) = T ∧ wr = w) (fun _ s4 _ => n - (intOf s4).toNat)
  case atStart => exact ⟨0, 0, rfl, rfl, by omega, by omega, HT.out.symm, rfl⟩
  case round =>
    obtain ⟨k, sum, rfl, rfl, hk, hlf, ht, hw⟩ := hrel
    subst hw
    have HTt := hide ht
    clear ht
    by_cases hlt : k < n
    · have hki : (k : Int) < (n : Int) := by omega
      have k1 : k < L.length := by rw [← HN.out]; exact hlt
      obtain ⟨b, s, d, f1, r1⟩ := HV.out.at k (by rw [List.length_map]; exact k1)
      obtain ⟨g1, -, -⟩ := slice_of EV.out f1
      subst g1
      rw [List.getElem_map] at r1
      obtain ⟨p, hp⟩ : ∃ p, p = L[k] := ⟨_, rfl⟩
      have op : okP p := by rw [hp]; exact ok _ (List.getElem_mem _)
      rw [← hp] at r1
      have c32 := partC_size op r1
      obtain ⟨left, hleft⟩ : ∃ z, z = 9223372036854775807 - sum := ⟨_, rfl⟩
      have HS : Hid (tot ((L.drop k).map (·.2)) left = if left < p.2 then false else tot ((L.drop (k + 1)).map (·.2)) (left - p.2)) := hide (by rw [drop_cons L k k1, ← hp]; rfl)
      rw [← hleft] at HTt
      obtain ⟨sz, hsz⟩ : ∃ z, z = p.2 := ⟨_, rfl⟩
      rw [← hsz] at HS c32
      have hw1 : IntKind.u64.wrap (9223372036854775807 - (sum : Int)) = (left : Int) := by rw [show 9223372036854775807 - (sum : Int) = (left : Int) by omega]; exact wu64 left (by omega)
      clear r1 f1 hp op hsz
      by_cases hbig : left < sz
      · have hbi : (left : Int) < (sz : Int) := by omega
        have HE : Hid (T = false) := hide (by rw [← HTt.out, HS.out, if_pos hbig])
        clear hleft
        go_wp2
        go_ret
        exact ⟨by rw [HF.out, HE.out]; rfl, rfl⟩
      · have hbi : ¬ (left : Int) < (sz : Int) := by omega
        obtain ⟨s2, hs2⟩ : ∃ z, z = sum + sz := ⟨_, rfl⟩
        have HE : Hid (tot ((L.drop (k + 1)).map (·.2)) (9223372036854775807 - s2) = T) := hide (by rw [← HTt.out, HS.out, if_neg hbig, show 9223372036854775807 - s2 = left - sz by omega])
        have hw2 : IntKind.u64.wrap ((sum : Int) + (sz : Int)) = (s2 : Int) := by rw [show (sum : Int) + (sz : Int) = (s2 : Int) by omega]; exact wu64 s2 (by omega)
        have hl3 : s2 ≤ 9223372036854775807 := by omega
        clear hs2 hleft
        go_wp2
        exact ⟨⟨k + 1, s2, rfl, by go_num, by omega, hl3, HE.out, by trivial⟩, by simp [intOf]; omega⟩
    · have hki : ¬ (k : Int) < (n : Int) := by omega
      have HE : Hid (T = true) := hide (by rw [← HTt.out, List.drop_eq_nil_of_le (by rw [← HN.out]; omega)]; rfl)
      go_wp2
      go_ret
      exact ⟨by rw [HF.out, HE.out]; rfl, rfl⟩
end Go.Proofs.YtjcfndiceinkjaaDoor
