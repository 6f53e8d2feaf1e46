/- What the laws say of lists that rise, without a program. -/
import Derived.Test.YtajkbeihopicnaaRowEasy
namespace Go.Proofs.Ytajkbeihopicnaa

/-- The keys rise. -/
def Inc (L : List Rw) : Prop := ∀ i j, i < j → j < L.length → (nth L i).k < (nth L j).k
theorem risesTo_inc {L : List Rw} (h : Inc L) : ∀ k, k + 1 ≤ L.length ∨ k = 0 → risesTo L k = true
  | 0, _ => rfl
  | k + 1, hk => by
    unfold risesTo
    rw [risesTo_inc h k (by omega), decide_eq_true (h k (k + 1) (by omega) (by omega))]; rfl
theorem rises_inc {L : List Rw} (h : Inc L) : rises L = true := risesTo_inc h _ (by omega)
theorem inc_nil : Inc [] := fun _ _ _ h => by simp at h
theorem nth_put {L : List Rw} {f : Nat} (hf : f ≤ L.length) (x : Rw) (i : Nat) : nth (L.take f ++ x :: L.drop f) i = if i < f then nth L i else if i = f then x else nth L (i - 1) := by
  have hl : (L.take f).length = f := by rw [List.length_take]; omega
  split
  · rename_i h; rw [nth_append_left (by omega), nth_take h]
  · rename_i h
    rw [nth_append_right (by omega), hl]
    split
    · rename_i h'; subst h'; rw [Nat.sub_self]; rfl
    · rename_i h'
      obtain ⟨d, hd⟩ : ∃ d, i - f = d + 1 := ⟨i - f - 1, by omega⟩
      rw [hd, nth_cons_succ, nth_drop]; congr 1; omega
theorem nth_cut {L : List Rw} {f : Nat} (hf : f ≤ L.length) (i : Nat) : nth (L.take f ++ L.drop (f + 1)) i = if i < f then nth L i else nth L (i + 1) := by
  have hl : (L.take f).length = f := by rw [List.length_take]; omega
  split
  · rename_i h; rw [nth_append_left (by omega), nth_take h]
  · rename_i h
    rw [nth_append_right (by omega), hl, nth_drop]; congr 1; omega
theorem len_put {L : List Rw} {f : Nat} (hf : f ≤ L.length) (x : Rw) : (L.take f ++ x :: L.drop f).length = L.length + 1 := by
  simp only [List.length_append, List.length_take, List.length_cons, List.length_drop]; omega
theorem len_cut {L : List Rw} {f : Nat} (hf : f < L.length) : (L.take f ++ L.drop (f + 1)).length = L.length - 1 := by
  simp only [List.length_append, List.length_take, List.length_drop]; omega
theorem isAt_false {L : List Rw} {key : Int} (h : isAt L key = false) (hf : findN L key < L.length) : (nth L (findN L key)).k ≠ key := by
  unfold isAt at h
  rw [decide_eq_true hf, Bool.true_and] at h
  exact of_decide_eq_false h
theorem putL_no {L : List Rw} {x : Rw} (h : isAt L x.k = true) : putL L x = L := by unfold putL; rw [h]; rfl
theorem putL_yes {L : List Rw} {x : Rw} (h : isAt L x.k = false) : putL L x = L.take (findN L x.k) ++ x :: L.drop (findN L x.k) := by unfold putL; rw [h]; rfl
theorem inc_put {L : List Rw} (h : Inc L) (x : Rw) : Inc (putL L x) := by
  cases hi : isAt L x.k with
  | true => rw [putL_no hi]; exact h
  | false =>
    rw [putL_yes hi]
    have hf := findN_le L x.k
    intro i j hij hj
    rw [len_put hf] at hj
    rw [nth_put hf, nth_put hf]
    have hlt := findN_lt L x.k
    have hge : ∀ a, findN L x.k ≤ a → a < L.length → x.k < (nth L a).k := fun a ha hal => by
      have h1 := findN_at L x.k (by omega)
      have h2 := isAt_false hi (by omega)
      rcases Nat.eq_or_lt_of_le ha with e | e
      · rw [← e]; omega
      · have := h _ _ e hal; omega
    generalize findN L x.k = f at *
    by_cases h1 : i < f
    · rw [if_pos h1]
      by_cases h2 : j < f
      · rw [if_pos h2]; exact h i j hij (by omega)
      · rw [if_neg h2]
        by_cases h3 : j = f
        · rw [if_pos h3]; exact hlt i h1
        · rw [if_neg h3]; exact h i (j - 1) (by omega) (by omega)
    · rw [if_neg h1, if_neg (show ¬ j < f by omega), if_neg (show ¬ j = f by omega)]
      by_cases h3 : i = f
      · rw [if_pos h3]; exact hge (j - 1) (by omega) (by omega)
      · rw [if_neg h3]; exact h (i - 1) (j - 1) (by omega) (by omega)
theorem dropL_no {L : List Rw} {key : Int} (h : isAt L key = false) : dropL L key = L := by unfold dropL; rw [h]; rfl
theorem dropL_yes {L : List Rw} {key : Int} (h : isAt L key = true) : dropL L key = L.take (findN L key) ++ L.drop (findN L key + 1) := by unfold dropL; rw [h]; rfl
theorem inc_drop {L : List Rw} (h : Inc L) (key : Int) : Inc (dropL L key) := by
  cases hi : isAt L key with
  | false => rw [dropL_no hi]; exact h
  | true =>
    rw [dropL_yes hi]
    have hf := (isAt_lt hi).1
    intro i j hij hj
    rw [len_cut hf] at hj
    rw [nth_cut (by omega), nth_cut (by omega)]
    split <;> split
    all_goals first
      | exact h _ _ (by omega) (by omega)
      | (exfalso; omega)
/-- What follows of a key that is there. -/
theorem drop_back {L : List Rw} (h : Inc L) {key : Int} (hi : isAt L key = true) : isAt (dropL L key) key = false ∧ putL (dropL L key) (nth L (findN L key)) = L ∧ findN L key < L.length ∧ (dropL L key).length = L.length - 1 ∧ (nth L (findN L key)).k = key := by
  obtain ⟨hf, hk⟩ := isAt_lt hi
  have hlt := findN_lt L key
  have hgt : ∀ a, findN L key < a → a < L.length → key < (nth L a).k := fun a ha hal => by have := h _ _ ha hal; omega
  rw [dropL_yes hi]
  have hx : (nth L (findN L key)).k = key := hk
  have hlen := len_cut hf
  have hn := nth_cut (L := L) (f := findN L key) (by omega)
  generalize hfn : findN L key = f at *
  have hF : findN (L.take f ++ L.drop (f + 1)) key = f := findN_eq (by omega) (fun i hi' => by rw [hn, if_pos hi']; exact hlt i hi') (fun hl => by rw [hn, if_neg (by omega)]; have := hgt (f + 1) (by omega) (by omega); omega)
  have hA : isAt (L.take f ++ L.drop (f + 1)) key = false := by
    unfold isAt
    rw [hF]
    by_cases hl : f < (L.take f ++ L.drop (f + 1)).length
    · rw [decide_eq_true hl, hn, if_neg (by omega), Bool.true_and]
      have := hgt (f + 1) (by omega) (by omega)
      exact decide_eq_false (by omega)
    · rw [decide_eq_false hl]; rfl
  refine ⟨hA, ?_, hf, hlen, hx⟩
  have hA' : isAt (L.take f ++ L.drop (f + 1)) (nth L f).k = false := by rw [hx]; exact hA
  rw [putL_yes hA', hx, hF]
  refine nth_ext (by rw [len_put (by omega), hlen]; omega) fun i hi' => ?_
  rw [len_put (by omega), hlen] at hi'
  rw [nth_put (by omega)]
  split
  · rename_i h1; rw [hn, if_pos h1]
  · rename_i h1
    split
    · rename_i h2; rw [h2]
    · rename_i h2; rw [hn, if_neg (by omega)]; congr 1; omega
/-- The rows put in one by one. -/
def keepL (L : List Rw) : Nat → List Rw
  | 0 => []
  | k + 1 => putL (keepL L k) (nth L k)
theorem keepL_inc (L : List Rw) : ∀ k, Inc (keepL L k)
  | 0 => inc_nil
  | k + 1 => inc_put (keepL_inc L k) _
theorem keepL_len (L : List Rw) : ∀ k, (keepL L k).length ≤ k
  | 0 => Nat.le_refl _
  | k + 1 => by
    have h := keepL_len L k
    show (putL (keepL L k) (nth L k)).length ≤ k + 1
    cases hi : isAt (keepL L k) (nth L k).k with
    | true => rw [putL_no hi]; omega
    | false => rw [putL_yes hi, len_put (findN_le _ _)]; omega
end Go.Proofs.Ytajkbeihopicnaa
