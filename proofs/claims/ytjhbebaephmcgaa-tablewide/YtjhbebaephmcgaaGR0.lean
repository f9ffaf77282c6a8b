/- A ring of values, pure. -/
import Derived.Test.YtjhbebaephmcgaaSM
namespace Go.Proofs.Ytjhbebaephmcgaa
set_option linter.unusedVariables false
set_option linter.unusedSimpArgs false

/-- The slot that lies k behind slot b, of n. -/
def spot (n b k : Nat) : Nat := if n - b ≤ k then k - (n - b) else b + k
theorem spot_lt {n b k : Nat} (hb : b < n) (hk : k ≤ n) : spot n b k < n := by unfold spot; split <;> omega
theorem spot_inj {n b i j : Nat} (hb : b < n) (hi : i < n) (hj : j < n) (h : spot n b i = spot n b j) : i = j := by
  unfold spot at h; split at h <;> split at h <;> omega
theorem spot_zero {n b : Nat} (hb : b < n) : spot n b 0 = b := by unfold spot; split <;> omega
theorem spot_from {n k : Nat} (hk : k < n) : spot n 0 k = k := by unfold spot; split <;> omega
theorem spot_back {n b i : Nat} (hb : b < n) (hi : i + 1 < n) : spot n (spot n b (n - 1)) (i + 1) = spot n b i := by
  unfold spot; split <;> split <;> split <;> omega
theorem spot_next {n b i : Nat} (hb : b < n) (hi : i + 1 < n) : spot n (spot n b 1) i = spot n b (i + 1) := by
  unfold spot; split <;> split <;> split <;> omega
section
variable {α : Type}
/-- Slots S hold the values V, from slot b on. -/
structure Ring (S : List α) (b : Nat) (V : List α) : Prop where
  len : V.length ≤ S.length
  bot : b < S.length ∨ (S.length = 0 ∧ b = 0)
  at_ : ∀ i, i < V.length → S[spot S.length b i]? = V[i]?
theorem Ring.pos {S V : List α} {b : Nat} (h : Ring S b V) (hp : 0 < S.length) : b < S.length := by
  rcases h.bot with h | h
  · exact h
  · omega
theorem Ring.whole (V : List α) : Ring V 0 V := ⟨Nat.le_refl _, by omega, fun i hi => by rw [spot_from hi]⟩
theorem Ring.put {S V : List α} {b : Nat} (h : Ring S b V) (i : Nat) (hi : i < V.length) (v : α) : Ring (S.set (spot S.length b i) v) b (V.set i v) := by
  have hb := h.pos (Nat.lt_of_lt_of_le (Nat.lt_of_le_of_lt (Nat.zero_le _) hi) h.len)
  have hl := h.len
  refine ⟨by simpa using hl, by simpa using h.bot, fun j hj => ?_⟩
  simp only [List.length_set] at hj ⊢
  by_cases e : i = j
  · subst e
    rw [List.getElem?_set_self (spot_lt hb (by omega)), List.getElem?_set_self hi]
  · rw [List.getElem?_set_ne (fun q => e (spot_inj hb (by omega) (by omega) q)), List.getElem?_set_ne e]
    exact h.at_ j hj
theorem Ring.pushT {S V : List α} {b : Nat} (h : Ring S b V) (hr : V.length < S.length) (v : α) : Ring (S.set (spot S.length b V.length) v) b (V ++ [v]) := by
  have hb := h.pos (by omega)
  refine ⟨by simp; omega, by simpa using h.bot, fun j hj => ?_⟩
  simp only [List.length_set, List.length_append, List.length_singleton] at hj ⊢
  by_cases e : V.length = j
  · subst e
    rw [List.getElem?_set_self (spot_lt hb (by omega))]
    simp
  · rw [List.getElem?_set_ne (fun q => e (spot_inj hb (by omega) (by omega) q)), List.getElem?_append_left (by omega)]
    exact h.at_ j (by omega)
theorem Ring.pushB {S V : List α} {b : Nat} (h : Ring S b V) (hr : V.length < S.length) (v : α) : Ring (S.set (spot S.length b (S.length - 1)) v) (spot S.length b (S.length - 1)) (v :: V) := by
  have hb := h.pos (by omega)
  have hb' : spot S.length b (S.length - 1) < S.length := spot_lt hb (by omega)
  refine ⟨by simp; omega, .inl (by simpa using hb'), fun j hj => ?_⟩
  simp only [List.length_set, List.length_cons] at hj ⊢
  cases j with
  | zero =>
    rw [spot_zero hb', List.getElem?_set_self hb']
    rfl
  | succ j =>
    rw [spot_back hb (by omega), List.getElem?_set_ne (fun q => by have := spot_inj hb (by omega) (by omega) q; omega)]
    rw [List.getElem?_cons_succ]
    exact h.at_ j (by omega)
theorem Ring.popT {S V : List α} {b : Nat} {v : α} (h : Ring S b (V ++ [v])) (z : α) : Ring (S.set (spot S.length b V.length) z) b V := by
  have hl := h.len
  simp only [List.length_append, List.length_singleton] at hl
  have hb := h.pos (by omega)
  refine ⟨by simp; omega, by simpa using h.bot, fun j hj => ?_⟩
  simp only [List.length_set]
  rw [List.getElem?_set_ne (fun q => by have := spot_inj hb (by omega) (by omega) q; omega)]
  have := h.at_ j (by simp; omega)
  rw [this, List.getElem?_append_left hj]
theorem Ring.popB {S V : List α} {b : Nat} {v : α} (h : Ring S b (v :: V)) (z : α) : Ring (S.set (spot S.length b 0) z) (spot S.length b 1) V := by
  have hl := h.len
  simp only [List.length_cons] at hl
  have hb := h.pos (by omega)
  refine ⟨by simp; omega, .inl (by simpa using spot_lt hb (by omega)), fun j hj => ?_⟩
  simp only [List.length_set]
  rw [spot_next hb (by omega), List.getElem?_set_ne (fun q => by have := spot_inj hb (by omega) (by omega) q; omega)]
  have := h.at_ (j + 1) (by simp; omega)
  rw [this, List.getElem?_cons_succ]
theorem Ring.laid {S V : List α} {b : Nat} (h : Ring S b V) : (S.drop b ++ S).take V.length = V := by
  have hl := h.len
  apply List.ext_getElem?
  intro i
  by_cases hi : i < V.length
  · have hb := h.pos (by omega)
    rw [List.getElem?_take_of_lt hi, ← h.at_ i hi]
    unfold spot
    split
    · rw [List.getElem?_append_right (by simp; omega)]
      simp
    · rw [List.getElem?_append_left (by simp; omega), List.getElem?_drop]
  · rw [List.getElem?_eq_none (by simp; omega), List.getElem?_eq_none (by omega)]
theorem Ring.grown {S V : List α} {b : Nat} (_ : Ring S b V) (k : Nat) (hk : 0 < k) (z : α) : Ring (V ++ List.replicate k z) 0 V := by
  refine ⟨by simp, .inl (by simp; omega), fun i hi => ?_⟩
  rw [spot_from (by simp; omega), List.getElem?_append_left hi]
theorem Ring.last {S V : List α} {b : Nat} {v : α} (h : Ring S b (V ++ [v])) : S[spot S.length b V.length]? = some v := by
  rw [h.at_ V.length (by simp)]; simp
theorem Ring.first {S V : List α} {b : Nat} {v : α} (h : Ring S b (v :: V)) : S[spot S.length b 0]? = some v := by
  rw [h.at_ 0 (by simp)]; rfl
/-- One value goes from the bottom to the top, or back. -/
def rotB : List α → List α
  | [] => []
  | v :: r => r ++ [v]
def rotT (l : List α) : List α := match l.getLast? with
  | none => []
  | some v => v :: l.dropLast
theorem rotT_rotB (l : List α) : rotT (rotB l) = l := by
  cases l with
  | nil => rfl
  | cons v r => simp [rotB, rotT]
theorem rotB_rotT (l : List α) : rotB (rotT l) = l := by
  unfold rotT
  cases h : l.getLast? with
  | none => rw [List.getLast?_eq_none_iff] at h; subst h; rfl
  | some v =>
    obtain ⟨l', rfl⟩ := List.getLast?_eq_some_iff.1 h
    simp [rotB]
theorem rotB_len (l : List α) : (rotB l).length = l.length := by cases l <;> simp [rotB]
theorem rotT_snoc (l : List α) (v : α) : rotT (l ++ [v]) = v :: l := by simp [rotT]
theorem rotT_len (l : List α) : (rotT l).length = l.length := by
  have h := congrArg List.length (rotB_rotT l)
  rwa [rotB_len] at h
def rot (bottom : Bool) (l : List α) : List α := if bottom then rotB l else rotT l
theorem rot_len (b : Bool) (l : List α) : (rot b l).length = l.length := by cases b; exact rotT_len l; exact rotB_len l
theorem rot_rot (b : Bool) (l : List α) : rot (!b) (rot b l) = l := by cases b; exact rotB_rotT l; exact rotT_rotB l
def rots (b : Bool) : Nat → List α → List α
  | 0, l => l
  | n + 1, l => rots b n (rot b l)
theorem rots_len (b : Bool) : ∀ (n : Nat) (l : List α), (rots b n l).length = l.length
  | 0, _ => rfl
  | n + 1, l => by rw [rots, rots_len b n, rot_len]
theorem rots_succ' (b : Bool) : ∀ (n : Nat) (l : List α), rots b (n + 1) l = rot b (rots b n l)
  | 0, _ => rfl
  | n + 1, l => by rw [rots, rots_succ' b n]; rfl
theorem rots_back (b : Bool) : ∀ (n : Nat) (l : List α), rots (!b) n (rots b n l) = l
  | 0, _ => rfl
  | n + 1, l => by
    rw [rots_succ' b n, rots, rot_rot, rots_back b n]
end
end Go.Proofs.Ytjhbebaephmcgaa
