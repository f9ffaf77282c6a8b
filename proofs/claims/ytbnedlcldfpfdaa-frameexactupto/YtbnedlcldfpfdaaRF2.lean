/- Records one behind the other (pure): where the next one begins. -/
import Derived.Test.YtbnedlcldfpfdaaFR14
namespace Go.Proofs.Ytbnedlcldfpfdaa
set_option linter.unusedVariables false
set_option linter.unusedSimpArgs false

/-- Where the k-th record begins. -/
def plc (bs : List UInt8) : Nat → Nat
  | 0 => 0
  | k + 1 => plc bs k + (upk (bs.drop (plc bs k))).2.1
/-- Does a k-th record stand there? -/
def okR (bs : List UInt8) (k : Nat) : Prop := (upk (bs.drop (plc bs k))).2.2 = 0
def bodyR (bs : List UInt8) (k : Nat) : List UInt8 := (upk (bs.drop (plc bs k))).1
theorem upk_size {b : List UInt8} (h : (upk b).2.2 = 0) : upk b = ((b.drop 10).take (lenN b), 10 + lenN b, 0) ∧ 10 + lenN b ≤ b.length := by
  obtain ⟨k1, k2, k3, k4⟩ := upk_ok h
  refine ⟨?_, k3⟩
  unfold upk
  rw [if_neg (by omega), if_neg (fun h => by rcases h with h | h; omega; exact h k2), if_neg (by omega), if_neg (fun h => h k4)]
theorem plc_step {bs : List UInt8} {k : Nat} (h : okR bs k) : plc bs (k + 1) = plc bs k + 10 + (bodyR bs k).length ∧ plc bs (k + 1) ≤ bs.length := by
  obtain ⟨e, hl⟩ := upk_size h
  rw [List.length_drop] at hl
  have hb : (bodyR bs k).length = lenN (bs.drop (plc bs k)) := by
    unfold bodyR
    rw [e]
    simp only [List.length_take, List.length_drop]
    omega
  have : plc bs (k + 1) = plc bs k + (10 + lenN (bs.drop (plc bs k))) := by rw [plc, e]
  omega
theorem plc_le {bs : List UInt8} : ∀ (k : Nat), (∀ j, j < k → okR bs j) → plc bs k ≤ bs.length
  | 0, _ => Nat.zero_le _
  | k + 1, h => (plc_step (h k (by omega))).2
theorem unpk_at {bs : List UInt8} {i : Nat} (h : i ≤ bs.length) : unpk bs (i : Int) = upk (bs.drop i) := by
  unfold unpk
  rw [if_neg (by omega), Int.toNat_natCast]
theorem bodyR_len {bs : List UInt8} {k : Nat} (h : okR bs k) : (bodyR bs k).length ≤ 65526 := by
  obtain ⟨e, hl⟩ := upk_size h
  obtain ⟨k1, _⟩ := upk_ok h
  unfold bodyR
  rw [e]
  simp only [List.length_take, List.length_drop]
  omega
end Go.Proofs.Ytbnedlcldfpfdaa
