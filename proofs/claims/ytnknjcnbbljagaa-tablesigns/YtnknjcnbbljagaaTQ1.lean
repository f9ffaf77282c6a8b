/- The program's table and the document's, pure: each is the other's image. -/
import Derived.Test.YtnknjcnbbljagaaTRm
import Derived.Test.YtnknjcnbbljagaaTM3
namespace Go.Proofs.Ytnknjcnbbljagaa
set_option linter.unusedVariables false
set_option linter.unusedSimpArgs false
namespace RR

def imS : Slt Int Int → SR
  | .emp => .emp
  | .ful k v => .ful (k, 0) v
  | .tmb => .tmb
def imT (T : Tb Int Int) : TR := ⟨T.y.map imS, T.e.map imS, T.m⟩
theorem sat_im (L : List (Slt Int Int)) (p : Nat) : sat (L.map imS) p = imS (sat L p) := by
  simp only [sat, List.getD_eq_getElem?_getD, List.getElem?_map]
  cases L[p]? <;> rfl
theorem st_im (s : Slt Int Int) : (imS s).st = s.st := by cases s <;> rfl
theorem cnt_im (L : List (Slt Int Int)) (q : Nat) : cnt (L.map imS) q = cnt L q := by
  unfold cnt
  rw [List.countP_map]
  congr 1
  funext s
  simp [st_im]
theorem fnd_im (L : List (Slt Int Int)) (h : Nat) (k : Int) (f i : Nat) : fnd eqR (L.map imS) h (k, 0) f i = fnd eqK L h k f i := by
  induction f generalizing i with
  | zero => rfl
  | succ f ih =>
    have hl : (L.map imS).length = L.length := List.length_map ..
    cases hs : sat L ((h + i) % L.length) with
    | emp => rw [fnd_emp (by rw [hl, sat_im, hs]; rfl), fnd_emp hs]
    | tmb => rw [fnd_tmb (by rw [hl, sat_im, hs]; rfl), fnd_tmb hs, ih]
    | ful k' v' =>
      have e : sat (L.map imS) ((h + i) % (L.map imS).length) = .ful (k', 0) v' := by rw [hl, sat_im, hs]; rfl
      have eb : eqR (k', 0) (k, 0) = eqK k' k := rfl
      cases he : eqK k' k with
      | true => rw [fnd_yes e (eb.trans he), fnd_yes hs he, hl]
      | false => rw [fnd_no e (eb.trans he), fnd_no hs he, ih]
theorem find_im (L : List (Slt Int Int)) (h : Nat) (k : Int) : find eqR (L.map imS) h (k, 0) = find eqK L h k := by
  unfold find
  rw [fnd_im, List.length_map]
theorem lyg_im (L : List (Slt Int Int)) (h : Nat) (k v : Int) (f i : Nat) : lyg (L.map imS) h (k, 0) v f i = (lyg L h k v f i).map imS := by
  induction f generalizing i with
  | zero => rfl
  | succ f ih =>
    have hl : (L.map imS).length = L.length := List.length_map ..
    cases hs : sat L ((h + i) % L.length) with
    | emp => rw [lyg_emp (by rw [hl, sat_im, hs]; rfl), lyg_emp hs, hl, List.map_set]; rfl
    | tmb => rw [lyg_tmb (by rw [hl, sat_im, hs]; rfl), lyg_tmb hs, hl, List.map_set]; rfl
    | ful k' v' => rw [lyg_ful (k' := (k', 0)) (v' := v') (by rw [hl, sat_im, hs]; rfl), lyg_ful hs, ih]
theorem lay_im (L : List (Slt Int Int)) (h : Nat) (k v : Int) : lay (L.map imS) h (k, 0) v = (lay L h k v).map imS := by
  unfold lay
  rw [lyg_im, List.length_map]
section
variable {ti ma : Int}
theorem mv1_im (T : Tb Int Int) : mv1 (hsR ti ma) (imT T) = imT (mv1 (hsh ti ma) T) := by
  unfold mv1
  have e : sat (imT T).e (imT T).m = imS (sat T.e T.m) := sat_im T.e T.m
  rw [e]
  cases sat T.e T.m with
  | emp => rfl
  | tmb => rfl
  | ful k v =>
    show (⟨lay (T.y.map imS) (hsh ti ma k) (k, 0) v, (T.e.map imS).set T.m .tmb, T.m + 1⟩ : TR) = ⟨(lay T.y (hsh ti ma k) k v).map imS, (T.e.set T.m .tmb).map imS, T.m + 1⟩
    rw [lay_im, List.map_set]
    rfl
theorem mvN_im (n : Nat) (T : Tb Int Int) : mvN (hsR ti ma) n (imT T) = imT (mvN (hsh ti ma) n T) := by
  induction n with
  | zero => rfl
  | succ n ih => rw [mvN, mvN, ih, mv1_im]
theorem left_im (T : Tb Int Int) : (imT T).left = T.left := by
  show (T.e.map imS).length - T.m = _
  rw [List.length_map]; rfl
theorem len_im (T : Tb Int Int) : (imT T).len = T.len := by
  show cnt (T.y.map imS) 1 + cnt (T.e.map imS) 1 = _
  rw [cnt_im, cnt_im]; rfl
theorem endT_im (T : Tb Int Int) : endT (imT T) = imT (endT T) := by
  unfold endT
  rw [left_im]
  split <;> rfl
theorem stepT_im (T : Tb Int Int) : stepT (hsR ti ma) (imT T) = imT (stepT (hsh ti ma) T) := by
  unfold stepT
  rw [left_im, mvN_im, endT_im]
  split <;> rfl
theorem growT_im (T : Tb Int Int) : growT (imT T) = imT (growT T) := by
  unfold growT
  have e1 : cnt (imT T).y 1 = cnt T.y 1 := cnt_im _ _
  have e2 : cnt (imT T).y 2 = cnt T.y 2 := cnt_im _ _
  have e3 : (imT T).y.length = T.y.length := List.length_map ..
  rw [left_im, e1, e2, e3, len_im]
  split
  · rfl
  · show _ = (⟨(List.replicate _ Slt.emp).map imS, T.y.map imS, T.m⟩ : TR)
    rw [List.map_replicate]
    rfl
theorem seek_im (T : Tb Int Int) (k : Int) : seek eqR (hsR ti ma) (imT T) (k, 0) = seek eqK (hsh ti ma) T k := by
  unfold seek
  have e1 : find eqR (imT T).y (hsR ti ma (k, 0)) (k, 0) = find eqK T.y (hsh ti ma k) k := find_im _ _ _
  have e2 : find eqR (imT T).e (hsR ti ma (k, 0)) (k, 0) = find eqK T.e (hsh ti ma k) k := find_im _ _ _
  rw [e1, e2]
theorem valS_im (s : Slt Int Int) : valS 0 (imS s) = valS 0 s := by cases s <;> rfl
theorem valT_im (T : Tb Int Int) (r : Option (Bool × Nat)) : valT 0 (imT T) r = valT 0 T r := by
  rcases r with _ | ⟨_ | _, p⟩
  · rfl
  · show valS 0 (sat (T.y.map imS) p) = valS 0 (sat T.y p)
    rw [sat_im, valS_im]
  · show valS 0 (sat (T.e.map imS) p) = valS 0 (sat T.e p)
    rw [sat_im, valS_im]
theorem putG_im (T : Tb Int Int) (k v : Int) : putG eqR (hsR ti ma) (imT T) (k, 0) v = imT (putG eqK (hsh ti ma) T k v) := by
  unfold putG
  rw [seek_im]
  rcases (seek eqK (hsh ti ma) T k).1 with _ | ⟨_ | _, p⟩
  · show growT (⟨lay (T.y.map imS) (hsh ti ma k) (k, 0) v, T.e.map imS, T.m⟩ : TR) = _
    rw [lay_im]
    exact growT_im ⟨lay T.y (hsh ti ma k) k v, T.e, T.m⟩
  · show (⟨(T.y.map imS).set p (repS v (sat (T.y.map imS) p)), T.e.map imS, T.m⟩ : TR) = ⟨(T.y.set p (repS v (sat T.y p))).map imS, T.e.map imS, T.m⟩
    rw [List.map_set, sat_im]
    cases sat T.y p <;> rfl
  · show (⟨lay (T.y.map imS) (hsh ti ma k) (k, 0) v, (T.e.map imS).set p .tmb, T.m⟩ : TR) = ⟨(lay T.y (hsh ti ma k) k v).map imS, (T.e.set p .tmb).map imS, T.m⟩
    rw [lay_im, List.map_set]
    rfl
theorem putT_im (T : Tb Int Int) (k v : Int) : putT eqR (hsR ti ma) (imT T) (k, 0) v = imT (putT eqK (hsh ti ma) T k v) := by
  unfold putT
  rw [stepT_im, putG_im]
theorem delT_im (T : Tb Int Int) (k : Int) : delT eqR (hsR ti ma) (imT T) (k, 0) = imT (delT eqK (hsh ti ma) T k) := by
  unfold delT delG
  rw [stepT_im, seek_im]
  rcases (seek eqK (hsh ti ma) (stepT (hsh ti ma) T) k).1 with _ | ⟨_ | _, p⟩
  · rfl
  · show (⟨((stepT (hsh ti ma) T).y.map imS).set p .tmb, _, _⟩ : TR) = ⟨((stepT (hsh ti ma) T).y.set p .tmb).map imS, _, _⟩
    rw [List.map_set]
    rfl
  · show (⟨_, ((stepT (hsh ti ma) T).e.map imS).set p .tmb, _⟩ : TR) = ⟨_, ((stepT (hsh ti ma) T).e.set p .tmb).map imS, _⟩
    rw [List.map_set]
    rfl
end
/-- The pairs of a document's table, without tags. -/
theorem prs_im (L : List (Slt Int Int)) : (prs (L.map imS)).map (fun x => (x.1.1, x.2)) = prs L := by
  induction L with
  | nil => rfl
  | cons s L ih => cases s <;> simp [imS, prs, ih]
theorem prsT_im (T : Tb Int Int) : ((imT T).prs).map (fun x => (x.1.1, x.2)) = T.prs := by
  show ((prs (T.e.map imS)) ++ (prs (T.y.map imS))).map _ = _
  rw [List.map_append, prs_im, prs_im]
  rfl
end RR
end Go.Proofs.Ytnknjcnbbljagaa
