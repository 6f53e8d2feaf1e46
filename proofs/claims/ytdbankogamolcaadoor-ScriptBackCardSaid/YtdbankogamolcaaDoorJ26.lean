/- What bytes tell is right. · What is taken is put as the same bytes. · What is put is taken as the same script. · What is put is taken as the same script: the whole. · What the law ScriptBack needs of numbers, without a program. -/
import Derived.Test.YtdbankogamolcaaDoorJ11
import Derived.Test.YtdbankogamolcaaDoorJ14
import Derived.Test.YtdbankogamolcaaDoorJ5
namespace Go.Proofs.YtdbankogamolcaaDoor
set_option linter.unusedSimpArgs false
set_option linter.unusedVariables false
open Go.ChangeShapes Go.WideShapes Go.ChangeAt Go.RowKit

def GoodC (x : Cl) : Prop := mayC x.op x.l x.r = true
theorem takeCls_good (L : List Int) : ∀ n i P, (∀ x ∈ P, GoodC x) → ∀ x ∈ (takeCls L n i P).2.2, GoodC x
  | 0, i, P, h => h
  | n + 1, i, P, h => by
    unfold takeCls
    split
    · exact h
    · split
      · exact h
      · rename_i hm
        refine takeCls_good L n _ _ fun x hx => ?_
        rcases List.mem_append.1 hx with h1 | h1
        · exact h x h1
        · rw [List.mem_singleton] at h1
          subst h1
          cases hb : mayC (byN L i) (byN L (i + 1)) (byN L (i + 2)) with
          | false => exact absurd hb hm
          | true => exact hb
theorem takePs_good (L : List Int) : ∀ n t i p, (∀ k, ∀ x ∈ p k, GoodC x) → ∀ k, ∀ x ∈ (takePs L n t i p).2.2 k, GoodC x
  | 0, t, i, p, h => h
  | n + 1, t, i, p, h => by
    unfold takePs
    split
    · exact h
    · split
      · exact h
      · dsimp only
        split
        · refine takePs_good L n (t + 1) _ _ fun k => ?_
          unfold setP
          split
          · exact takeCls_good L _ _ [] fun x hx => absurd hx (List.not_mem_nil)
          · exact h k
        · exact h
theorem takePs_far (L : List Int) : ∀ n t i p k, t + n ≤ k → (takePs L n t i p).2.2 k = p k
  | 0, t, i, p, k, h => rfl
  | n + 1, t, i, p, k, h => by
    unfold takePs
    split
    · rfl
    · split
      · rfl
      · dsimp only
        split
        · rw [takePs_far L n (t + 1) _ _ k (by omega)]
          unfold setP
          rw [if_neg (by omega)]
        · rfl
def GoodE (thr : Int) (x : Ent) : Prop := 0 ≤ x.th ∧ x.th < thr ∧ 0 ≤ x.wh ∧ x.wh ≤ 3
theorem takeEs_good (L : List Int) (hB : Byt L) (thr : Int) : ∀ n i E, (∀ x ∈ E, GoodE thr x) → ∀ x ∈ (takeEs L thr n i E).2, GoodE thr x
  | 0, i, E, h => h
  | n + 1, i, E, h => by
    unfold takeEs
    split
    · exact h
    · split
      · exact h
      · rename_i hm
        refine takeEs_good L hB thr n _ _ fun x hx => ?_
        rcases List.mem_append.1 hx with h1 | h1
        · exact h x h1
        · rw [List.mem_singleton] at h1
          subst h1
          have := hB i
          unfold byN at hm ⊢
          refine ⟨?_, ?_, ?_, ?_⟩ <;> simp only <;> omega
theorem getD_mem' {α : Type} [Inhabited α] {L : List α} {i : Nat} (h : i < L.length) : L.getD i default ∈ L := by
  rw [List.getD_eq_getElem?_getD, List.getElem?_eq_getElem h]
  exact List.getElem_mem h
theorem clsB_good {L : List Cl} (h : ∀ x ∈ L, GoodC x) : ∀ k, k ≤ L.length → clsB L false k = false
  | 0, _ => rfl
  | k + 1, hk => by
    unfold clsB
    rw [clsB_good h k (by omega)]
    have := h _ (getD_mem' (i := k) (by omega))
    unfold GoodC at this
    unfold clN
    rw [this]; rfl
theorem prB_good {s : Scr} {lv : Int} (h : ∀ t, ∀ x ∈ s.p t, GoodC x) : ∀ t, prB s lv false t = false
  | 0 => rfl
  | t + 1 => by
    unfold prB
    rw [prB_good h t, clsB_good (h t) _ (Nat.le_refl _)]
    cases decide (s.c (2 + t) ≤ lv) <;> rfl
theorem prL_good {s : Scr} {lv : Int} (h : ∀ t, (s.p t).length ≤ 40) : ∀ t, prL s lv t = false
  | 0 => rfl
  | t + 1 => by
    unfold prL
    have h1 : ¬ 40 < (s.p t).length := by have := h t; omega
    rw [prL_good h t, decide_eq_false h1]
    cases decide (s.c (2 + t) ≤ lv) <;> rfl
theorem entB_good {s : Scr} {lv thr : Int} (h : ∀ x ∈ s.e, GoodE thr x) : ∀ n, n ≤ s.e.length → entB s lv n = false
  | 0, _ => rfl
  | n + 1, hn => by
    unfold entB
    rw [entB_good h n (by omega)]
    have hx := h _ (getD_mem' (i := n) (by omega))
    obtain ⟨-, -, h1, h2⟩ := hx
    have hw : entW (enN s.e n) = false := by
      unfold entW enN
      rw [decide_eq_false (by omega), decide_eq_false (by omega)]; rfl
    rw [hw]
    cases decide (lvE s n ≤ lv) <;> rfl
/-- A script of good parts is right up to any level. -/
theorem right_good {s : Scr} (lv : Int) (hm : mayB s.c = true) (hp : ∀ t, ∀ x ∈ s.p t, GoodC x) (hl : ∀ t, (s.p t).length ≤ 40) (hf : ∀ t : Nat, s.c 1 ≤ t → s.p t = []) (he : ∀ x ∈ s.e, GoodE (s.c 1) x) (hn : s.e.length ≤ 60000) : rightN s lv = 0 := by
  refine rightN_zero.2 ⟨hm, ?_, ?_, prL_good hl _, Nat.le_trans (entN_le s lv _) hn⟩
  · unfold argB
    refine Bool.or_eq_false_iff.2 ⟨any_no fun t ht => ?_, any_no fun i hi => ?_⟩
    · unfold argP
      by_cases h1 : s.c 1 ≤ (t : Int)
      · rw [hf t h1]
        rw [decide_eq_false (p := 0 < ([] : List Cl).length) (by decide), Bool.and_false]
      · have : ¬ lvl s.c t < 0 := by
          rcases lvl_bounds s.c (t : Int) with ⟨_, h5⟩ | ⟨h5, _⟩
          · exact absurd ⟨hm, by omega, by omega⟩ h5
          · omega
        rw [decide_eq_false this]; rfl
    · obtain ⟨h1, h2, -, -⟩ := he _ (getD_mem' (i := i) hi)
      refine decide_eq_false ?_
      unfold lvE enN
      rcases lvl_bounds s.c (s.e.getD i default).th with ⟨_, h5⟩ | ⟨h5, _⟩
      · exact absurd ⟨hm, h1, h2⟩ h5
      · omega
  · rw [entB_good he _ (Nat.le_refl _)]
    exact prB_good hp _
/-- What is taken is right up to any level. -/
theorem take_right {L : List Int} (hB : Byt L) (h : (takeN L).1 = 0) (lv : Int) : rightN (takeN L).2 lv = 0 := by
  obtain ⟨l1, l2⟩ := takeN_lim L
  revert h l1 l2
  unfold takeN
  split
  · intro h; exact absurd h (by decide)
  · split
    · intro h; exact absurd h (by decide)
    · rename_i hm
      dsimp only
      split
      · split
        · intro _ l1 l2
          have hc1 : takeC L 1 = byN L 1 := rfl
          refine right_good lv (by cases hb : mayB (takeC L) with | true => rfl | false => exact absurd hb hm) (takePs_good L _ _ _ _ fun _ x hx => absurd hx (List.not_mem_nil)) l2 (fun t ht => ?_) ?_ l1
          · exact takePs_far L _ _ _ _ t (by rw [show (Scr.c _ : Nat → Int) 1 = byN L 1 from hc1] at ht; omega)
          · exact takeEs_good L hB _ _ _ _ fun x hx => absurd hx (List.not_mem_nil)
        · rename_i h1; intro h; exact absurd h h1
      · rename_i h1; intro h; exact absurd h h1
end Go.Proofs.YtdbankogamolcaaDoor
namespace Go.Proofs.YtdbankogamolcaaDoor
set_option linter.unusedSimpArgs false
set_option linter.unusedVariables false
open Go.ChangeShapes Go.WideShapes Go.ChangeAt Go.RowKit

/-- s bytes from i on. -/
def winN (L : List Int) (i s : Nat) : List Int := (List.range s).map fun j => L.getD (i + j) 0
theorem winN_succ (L : List Int) (i s : Nat) : winN L i (s + 1) = winN L i s ++ [L.getD (i + s) 0] := by unfold winN; rw [List.range_succ, List.map_append]; rfl
theorem winN_add (L : List Int) (i s : Nat) : ∀ r, winN L i (s + r) = winN L i s ++ winN L (i + s) r
  | 0 => by unfold winN; simp
  | r + 1 => by rw [← Nat.add_assoc, winN_succ, winN_add L i s r, winN_succ, List.append_assoc, Nat.add_assoc]
theorem winN_all (L : List Int) : winN L 0 L.length = L := by
  apply List.ext_getElem
  · simp [winN]
  · intro k h1 h2
    simp [winN, List.getD_eq_getElem?_getD, List.getElem?_eq_getElem h2]
theorem num_win {L : List Int} (hB : Byt L) (i s : Nat) : numB (atN L i s s) s = winN L i s := numB_at hB i s s (Nat.le_refl _)
theorem byt_mod {L : List Int} (hB : Byt L) (i : Nat) : L.getD i 0 % 256 = L.getD i 0 := by have := hB i; omega
theorem putC_take {L : List Int} (hB : Byt L) (i : Nat) : putC (takeCl L i) = winN L i 35 := by
  have h8 := (atN_bound hB (i + 3) 8 8)
  have e1 : IntKind.u64.wrap (takeCl L i).key = atN L (i + 3) 8 8 := sgn_wrap ⟨h8.1, h8.2⟩
  unfold putC
  rw [e1]
  show [byN L i % 256, byN L (i + 1) % 256, byN L (i + 2) % 256] ++ numB (atN L (i + 3) 8 8) 8 ++ numB (atN L (i + 11) 8 8) 8 ++ numB (atN L (i + 19) 8 8) 8 ++ numB (atN L (i + 27) 8 8) 8 = _
  unfold byN
  rw [byt_mod hB, byt_mod hB, byt_mod hB, num_win hB, num_win hB, num_win hB, num_win hB, winN_add L i 27 8, winN_add L i 19 8, winN_add L i 11 8, winN_add L i 3 8]
  rfl
theorem putOf_take {L : List Int} (hB : Byt L) : ∀ t, t ≤ 8 → putOf (takeC L) t = winN L 0 (2 + t)
  | 0, _ => by
    unfold putOf
    show [byN L 0 % 256, byN L 1 % 256] = _
    unfold byN
    rw [byt_mod hB, byt_mod hB]; rfl
  | t + 1, ht => by
    unfold putOf
    rw [putOf_take hB t (by omega), ← Nat.add_assoc, winN_succ, Nat.zero_add]
    have : takeC L (2 + t) = byN L (2 + t) := if_pos (by omega)
    rw [this]
    unfold byN
    rw [byt_mod hB]
theorem putHd_take {L : List Int} (hB : Byt L) : putHd (takeC L) = winN L 0 16 := by
  have h3 := atN_bound hB 12 3 3
  have e1 : IntKind.u64.wrap (takeC L 12) = atN L 12 3 3 := by
    show IntKind.u64.wrap (atN L 12 3 3) = _
    rw [IntKind.wrap_u64]
    have : (256 : Int) ^ 3 = 16777216 := rfl
    omega
  unfold putHd
  rw [e1, putOf_take hB 8 (Nat.le_refl _), num_win hB]
  show winN L 0 10 ++ [byN L 10 % 256, byN L 11 % 256] ++ winN L 12 3 ++ [byN L 15 % 256] = _
  unfold byN
  rw [byt_mod hB, byt_mod hB, byt_mod hB, winN_succ L 0 15, winN_add L 0 12 3, winN_succ L 0 11, winN_succ L 0 10]
  simp
theorem takeCls_is {L : List Int} : ∀ n i P, (takeCls L n i P).1 = 0 → (takeCls L n i P).2 = (i + 35 * n, P ++ (List.range n).map fun k => takeCl L (i + 35 * k)) ∧ (n = 0 ∨ i + 35 * n ≤ L.length)
  | 0, i, P, _ => ⟨by simp [takeCls], .inl rfl⟩
  | n + 1, i, P, h => by
    unfold takeCls at h ⊢
    split at h
    · simp at h
    · split at h
      · simp at h
      · rename_i h1 h2
        rw [if_neg h1, if_neg h2]
        obtain ⟨h3, h4⟩ := takeCls_is n (i + 35) (P ++ [takeCl L i]) h
        refine ⟨?_, .inr (by omega)⟩
        rw [h3, List.range_succ_eq_map, List.map_cons, List.map_map, List.append_assoc]
        refine Prod.ext (by show i + 35 + 35 * n = i + 35 * (n + 1); omega) ?_
        show P ++ ([takeCl L i] ++ _) = P ++ (takeCl L (i + 35 * 0) :: _)
        refine congrArg (P ++ ·) (congr (congrArg List.cons rfl) (List.map_congr_left fun k _ => ?_))
        show takeCl L (i + 35 + 35 * k) = takeCl L (i + 35 * (k + 1))
        congr 1; omega
theorem clN_range {L : List Int} {n i k : Nat} (hk : k < n) : clN ((List.range n).map fun k => takeCl L (i + 35 * k)) k = takeCl L (i + 35 * k) := by
  unfold clN
  rw [List.getD_eq_getElem?_getD, List.getElem?_eq_getElem (by simpa using hk)]
  simp
theorem putCs_take {L : List Int} (hB : Byt L) (n i : Nat) (hn : (n : Int) = byN L i) : ∀ k, k ≤ n → putCs ((List.range n).map fun k => takeCl L (i + 1 + 35 * k)) (winN L 0 i) k = winN L 0 (i + 1 + 35 * k)
  | 0, _ => by
    unfold putCs
    rw [List.length_map, List.length_range, hn, Nat.mul_zero, Nat.add_zero, winN_succ, Nat.zero_add]
    unfold byN
    rw [byt_mod hB]
  | k + 1, hk => by
    unfold putCs
    rw [putCs_take hB n i hn k (by omega), clN_range (by omega), putC_take hB, show i + 1 + 35 * (k + 1) = (i + 1 + 35 * k) + 35 by omega, winN_add L 0 (i + 1 + 35 * k) 35, Nat.zero_add]
theorem takePs_keep (L : List Int) : ∀ n t i p k, k < t → (takePs L n t i p).2.2 k = p k
  | 0, t, i, p, k, h => rfl
  | n + 1, t, i, p, k, h => by
    unfold takePs
    split
    · rfl
    · split
      · rfl
      · dsimp only
        split
        · rw [takePs_keep L n (t + 1) _ _ k (by omega)]
          unfold setP
          rw [if_neg (by omega)]
        · rfl
theorem takePs_put {L : List Int} (hB : Byt L) (s : Scr) : ∀ n t i p, (takePs L n t i p).1 = 0 → i ≤ L.length → (∀ k, k < t + n → s.p k = (takePs L n t i p).2.2 k) → putPs s t = winN L 0 i → putPs s (t + n) = winN L 0 (takePs L n t i p).2.1 ∧ (takePs L n t i p).2.1 ≤ L.length
  | 0, t, i, p, _, hi, _, h => ⟨h, hi⟩
  | n + 1, t, i, p, h0, hi, hs, h => by
    have hst := hs t (by omega)
    unfold takePs at h0 hs hst ⊢
    split at h0
    · simp at h0
    · split at h0
      · simp at h0
      · rename_i h1 h2
        dsimp only at h0
        split at h0
        · rename_i h3
          rw [if_neg h1, if_neg h2] at hst hs ⊢
          dsimp only at hst hs ⊢
          rw [if_pos h3] at hst hs ⊢
          obtain ⟨h4, h5⟩ := takeCls_is _ _ _ h3
          rw [takePs_keep L n (t + 1) _ _ t (by omega)] at hst
          unfold setP at hst
          rw [if_pos rfl, h4] at hst
          have hb := hB i
          have hbn : ((byN L i).toNat : Int) = byN L i := by unfold byN; omega
          have hp : putPs s (t + 1) = winN L 0 (takeCls L (byN L i).toNat (i + 1) []).2.1 := by
            show putCs (s.p t) (putPs s t) (s.p t).length = _
            rw [hst, h, h4]
            show putCs ([] ++ _) _ ([] ++ _).length = _
            rw [List.nil_append, List.length_map, List.length_range]
            exact putCs_take hB _ i hbn _ (Nat.le_refl _)
          have hle : (takeCls L (byN L i).toNat (i + 1) []).2.1 ≤ L.length := by
            rw [h4]
            show i + 1 + 35 * _ ≤ _
            omega
          have := takePs_put hB s n (t + 1) _ _ h0 hle (fun k hk => hs k (by omega)) hp
          rw [show t + (n + 1) = t + 1 + n by omega]
          exact this
        · rename_i h3; exact absurd h0 h3
theorem takeEs_is {L : List Int} {thr : Int} : ∀ n i E, (takeEs L thr n i E).1 = 0 → (takeEs L thr n i E).2 = E ++ (List.range n).map (fun k => (⟨byN L (i + k) % 8, byN L (i + k) / 8⟩ : Ent)) ∧ ∀ k, k < n → byN L (i + k) ≤ 31
  | 0, i, E, _ => ⟨by simp [takeEs], fun k hk => absurd hk (Nat.not_lt_zero _)⟩
  | n + 1, i, E, h => by
    unfold takeEs at h ⊢
    split at h
    · simp at h
    · split at h
      · simp at h
      · rename_i h1 h2
        rw [if_neg h1, if_neg h2]
        obtain ⟨h3, h4⟩ := takeEs_is n (i + 1) _ h
        refine ⟨?_, fun k hk => ?_⟩
        · rw [h3, List.range_succ_eq_map, List.map_cons, List.map_map, List.append_assoc]
          show E ++ ([_] ++ _) = E ++ (_ :: _)
          refine congrArg (E ++ ·) (congr (congrArg List.cons rfl) (List.map_congr_left fun k _ => ?_))
          show (⟨byN L (i + 1 + k) % 8, byN L (i + 1 + k) / 8⟩ : Ent) = ⟨byN L (i + (k + 1)) % 8, byN L (i + (k + 1)) / 8⟩
          rw [show i + 1 + k = i + (k + 1) by omega]
        · rcases Nat.eq_zero_or_pos k with rfl | hk0
          · rw [Nat.add_zero]; omega
          · have := h4 (k - 1) (by omega)
            rwa [show i + 1 + (k - 1) = i + k by omega] at this
theorem putEs_take {L : List Int} (hB : Byt L) {s : Scr} {n i : Nat} (he : s.e = (List.range n).map (fun k => (⟨byN L (i + k) % 8, byN L (i + k) / 8⟩ : Ent))) (h0 : putPs s (s.c 1).toNat = winN L 0 i) : ∀ k, k ≤ n → putEs s k = winN L 0 (i + k)
  | 0, _ => h0
  | k + 1, hk => by
    unfold putEs
    have e1 : enN s.e k = ⟨byN L (i + k) % 8, byN L (i + k) / 8⟩ := by
      unfold enN
      rw [he, List.getD_eq_getElem?_getD, List.getElem?_eq_getElem (by rw [List.length_map, List.length_range]; omega)]
      simp
    rw [putEs_take hB he h0 k (by omega), e1, ← Nat.add_assoc, winN_succ, Nat.zero_add]
    have := hB (i + k)
    congr 2
    show (byN L (i + k) % 8 + 8 * (byN L (i + k) / 8)) % 256 = L.getD (i + k) 0
    unfold byN
    omega
/-- What is taken is put as the same bytes. -/
theorem put_take {L : List Int} (hB : Byt L) (h : (takeN L).1 = 0) : putS18 (takeN L).2 = L := by
  revert h
  unfold takeN
  split
  · intro h; exact absurd h (by decide)
  · split
    · intro h; exact absurd h (by decide)
    · rename_i hl hm
      dsimp only
      split
      · rename_i hp
        split
        · rename_i he
          intro _
          obtain ⟨h1, h2⟩ := takeEs_is _ _ _ he
          obtain ⟨h3, h4⟩ := takePs_put hB ⟨takeC L, (takePs L (byN L 1).toNat 0 16 fun _ => []).2.2, (takeEs L (byN L 1) (L.length - (takePs L (byN L 1).toNat 0 16 fun _ => []).2.1) (takePs L (byN L 1).toNat 0 16 fun _ => []).2.1 []).2⟩ _ 0 16 (fun _ => []) hp (by omega) (fun _ _ => rfl) (putHd_take hB)
          rw [Nat.zero_add] at h3
          have h5 := putEs_take hB h1 h3 _ (Nat.le_refl _)
          unfold putS18
          have h6 : (takeEs L (byN L 1) (L.length - (takePs L (byN L 1).toNat 0 16 fun _ => []).2.1) (takePs L (byN L 1).toNat 0 16 fun _ => []).2.1 []).2.length = L.length - (takePs L (byN L 1).toNat 0 16 fun _ => []).2.1 := by rw [h1]; simp
          show putEs _ (List.length (takeEs L (byN L 1) (L.length - (takePs L (byN L 1).toNat 0 16 fun _ => []).2.1) (takePs L (byN L 1).toNat 0 16 fun _ => []).2.1 []).2) = L
          rw [h6, h5, show (takePs L (byN L 1).toNat 0 16 fun _ => []).2.1 + (L.length - (takePs L (byN L 1).toNat 0 16 fun _ => []).2.1) = L.length by omega]
          exact winN_all L
        · rename_i h1; intro h; exact absurd h h1
      · rename_i h1; intro h; exact absurd h h1
end Go.Proofs.YtdbankogamolcaaDoor
namespace Go.Proofs.YtdbankogamolcaaDoor
set_option linter.unusedSimpArgs false
set_option linter.unusedVariables false
open Go.ChangeShapes Go.WideShapes Go.ChangeAt Go.RowKit

def Pre (A B : List Int) : Prop := ∃ C, B = A ++ C
theorem Pre.get {A B : List Int} (h : Pre A B) {j : Nat} (hj : j < A.length) : B.getD j 0 = A.getD j 0 := by
  obtain ⟨C, rfl⟩ := h
  rw [List.getD_eq_getElem?_getD, List.getElem?_append_left hj, ← List.getD_eq_getElem?_getD]
theorem Pre.len {A B : List Int} (h : Pre A B) : A.length ≤ B.length := by
  obtain ⟨C, rfl⟩ := h
  rw [List.length_append]; omega
theorem Pre.of_app {A C B : List Int} (h : Pre (A ++ C) B) : Pre A B := by
  obtain ⟨D, rfl⟩ := h
  exact ⟨C ++ D, by rw [List.append_assoc]⟩
theorem Pre.at_ {A C B : List Int} (h : Pre (A ++ C) B) {j : Nat} (hj : j < C.length) : B.getD (A.length + j) 0 = C.getD j 0 := by
  rw [h.get (by rw [List.length_append]; omega)]
  rw [List.getD_eq_getElem?_getD, List.getElem?_append_right (by omega), Nat.add_sub_cancel_left, ← List.getD_eq_getElem?_getD]
/-- A call's numbers are bytes where they are put as bytes. -/
structure BytC (x : Cl) : Prop where
  ok : OkC x
  op : 0 ≤ x.op ∧ x.op ≤ 255
  l : 0 ≤ x.l ∧ x.l ≤ 255
  r : 0 ≤ x.r ∧ x.r ≤ 255
theorem takeCl_put {A B : List Int} {x : Cl} (h : Pre (A ++ putC x) B) (hx : BytC x) : takeCl B A.length = x := by
  have hg : ∀ j, j < 35 → B.getD (A.length + j) 0 = (putC x).getD j 0 := fun j hj => h.at_ (by rw [putC_len]; exact hj)
  have e0 : byN B A.length = x.op := by
    have := hg 0 (by omega)
    unfold byN
    rw [Nat.add_zero] at this
    rw [this]
    show x.op % 256 = x.op
    have := hx.op; omega
  have e1 : byN B (A.length + 1) = x.l := by
    unfold byN
    rw [hg 1 (by omega)]
    show x.l % 256 = x.l
    have := hx.l; omega
  have e2 : byN B (A.length + 2) = x.r := by
    unfold byN
    rw [hg 2 (by omega)]
    show x.r % 256 = x.r
    have := hx.r; omega
  have p8 : (256 : Int) ^ 8 = 18446744073709551616 := rfl
  have hk : 0 ≤ IntKind.u64.wrap x.key ∧ IntKind.u64.wrap x.key < 256 ^ 8 := by rw [IntKind.wrap_u64, p8]; omega
  have q27 : Pre ((A ++ ([x.op % 256, x.l % 256, x.r % 256] ++ numB (IntKind.u64.wrap x.key) 8 ++ numB x.pa 8 ++ numB x.pb 8)) ++ numB x.hd 8) B := by rw [List.append_assoc]; exact h
  have q19 := q27.of_app
  rw [← List.append_assoc] at q19
  have q11 := q19.of_app
  rw [← List.append_assoc] at q11
  have q3 := q11.of_app
  rw [← List.append_assoc] at q3
  have w3 : atN B (A.length + 3) 8 8 = IntKind.u64.wrap x.key := atN_back _ 8 (fun k hk => by
    have := q3.at_ (j := k) (by rw [numB_len]; exact hk)
    rwa [List.length_append, show List.length [x.op % 256, x.l % 256, x.r % 256] = 3 from rfl] at this) hk
  have w11 : atN B (A.length + 11) 8 8 = x.pa := atN_back _ 8 (fun k hk => by
    have := q11.at_ (j := k) (by rw [numB_len]; exact hk)
    rwa [List.length_append, List.length_append, numB_len, show List.length [x.op % 256, x.l % 256, x.r % 256] = 3 from rfl] at this) (by rw [p8]; exact hx.ok.pa)
  have w19 : atN B (A.length + 19) 8 8 = x.pb := atN_back _ 8 (fun k hk => by
    have := q19.at_ (j := k) (by rw [numB_len]; exact hk)
    rwa [List.length_append, List.length_append, List.length_append, numB_len, numB_len, show List.length [x.op % 256, x.l % 256, x.r % 256] = 3 from rfl] at this) (by rw [p8]; exact hx.ok.pb)
  have w27 : atN B (A.length + 27) 8 8 = x.hd := atN_back _ 8 (fun k hk => by
    have := q27.at_ (j := k) (by rw [numB_len]; exact hk)
    rwa [List.length_append, List.length_append, List.length_append, List.length_append, numB_len, numB_len, numB_len, show List.length [x.op % 256, x.l % 256, x.r % 256] = 3 from rfl] at this) (by rw [p8]; exact hx.ok.hd)
  unfold takeCl
  rw [e0, e1, e2, w3, w11, w19, w27, wrap_sgn hx.ok.key]
theorem takeCls_put {L : List Cl} {M B : List Int} (hg : ∀ k, k < L.length → BytC (clN L k) ∧ GoodC (clN L k)) (h : Pre (putCs L M L.length) B) : ∀ n k, k + n = L.length → takeCls B n (M.length + 1 + 35 * k) (L.take k) = (0, M.length + 1 + 35 * L.length, L)
  | 0, k, hk => by
    obtain rfl : k = L.length := by omega
    unfold takeCls
    rw [List.take_length]
  | n + 1, k, hk => by
    have hp : ∀ m, m + (L.length - m) = L.length → m ≤ L.length → Pre (putCs L M m) B := by
      intro m hm
      generalize hd : L.length - m = d at hm
      intro _
      induction d generalizing m with
      | zero => rw [show m = L.length by omega]; exact h
      | succ d ih =>
        have := ih (m + 1) (by omega) (by omega) (by omega)
        exact Pre.of_app (C := putC (clN L m)) this
    have h1 := hp (k + 1) (by omega) (by omega)
    have hl := h1.len
    rw [putCs_len] at hl
    obtain ⟨g1, g2⟩ := hg k (by omega)
    have hcl : takeCl B (M.length + 1 + 35 * k) = clN L k := by
      have := takeCl_put (A := putCs L M k) (x := clN L k) h1 g1
      rwa [putCs_len] at this
    unfold takeCls
    rw [if_neg (by omega)]
    have hm : mayC (byN B (M.length + 1 + 35 * k)) (byN B (M.length + 1 + 35 * k + 1)) (byN B (M.length + 1 + 35 * k + 2)) = true := by
      unfold GoodC at g2
      rw [← hcl] at g2
      exact g2
    rw [if_neg (by rw [hm]; decide), hcl, show M.length + 1 + 35 * k + 35 = M.length + 1 + 35 * (k + 1) by omega]
    have ht : L.take k ++ [clN L k] = L.take (k + 1) := by
      rw [List.take_add_one, List.getElem?_eq_getElem (by omega)]
      unfold clN
      rw [List.getD_eq_getElem?_getD, List.getElem?_eq_getElem (by omega)]
      rfl
    rw [ht]
    exact takeCls_put hg h n (k + 1) (by omega)
theorem pre_cs {L : List Cl} {M B : List Int} (h : Pre (putCs L M L.length) B) : ∀ d, d ≤ L.length → Pre (putCs L M (L.length - d)) B
  | 0, _ => h
  | d + 1, hd => by
    have h1 := pre_cs h d (by omega)
    rw [show L.length - d = (L.length - (d + 1)) + 1 by omega] at h1
    exact Pre.of_app (C := putC (clN L (L.length - (d + 1)))) h1
theorem pre_cs0 {L : List Cl} {M B : List Int} (h : Pre (putCs L M L.length) B) : Pre (M ++ [(L.length : Int) % 256]) B := by
  have := pre_cs h L.length (Nat.le_refl _)
  rwa [Nat.sub_self] at this
theorem pre_ps {s : Scr} {B : List Int} {thr : Nat} (h : Pre (putPs s thr) B) : ∀ d, d ≤ thr → Pre (putPs s (thr - d)) B
  | 0, _ => h
  | d + 1, hd => by
    have h1 := pre_ps h d (by omega)
    rw [show thr - d = (thr - (d + 1)) + 1 by omega] at h1
    exact (pre_cs0 h1).of_app
theorem takePs_back {s : Scr} {B : List Int} {thr : Nat} (hg : ∀ t, t < thr → (s.p t).length ≤ 40 ∧ ∀ k, k < (s.p t).length → BytC (clN (s.p t) k) ∧ GoodC (clN (s.p t) k)) (h : Pre (putPs s thr) B) : ∀ n t p, t + n = thr →
    takePs B n t (putPs s t).length p = (0, (putPs s thr).length, fun k => if t ≤ k ∧ k < thr then s.p k else p k)
  | 0, t, p, ht => by
    obtain rfl : t = thr := by omega
    unfold takePs
    refine congrArg (fun q => (0, _, q)) (funext fun k => ?_)
    rw [if_neg (by omega)]
  | n + 1, t, p, ht => by
    have h1 : Pre (putPs s (t + 1)) B := by
      have := pre_ps h (thr - (t + 1)) (by omega)
      rwa [show thr - (thr - (t + 1)) = t + 1 by omega] at this
    obtain ⟨g1, g2⟩ := hg t (by omega)
    have h2 := pre_cs0 h1
    have hl := h1.len
    have e1 : (putPs s (t + 1)).length = (putPs s t).length + 1 + 35 * (s.p t).length := putCs_len _ _ _
    have hb : byN B (putPs s t).length = ((s.p t).length : Int) := by
      have := h2.at_ (j := 0) (by simp)
      rw [Nat.add_zero] at this
      unfold byN
      rw [this]
      show ((s.p t).length : Int) % 256 = _
      omega
    have hc := takeCls_put g2 h1 (s.p t).length 0 (Nat.zero_add _)
    rw [Nat.mul_zero, Nat.add_zero, List.take_zero] at hc
    unfold takePs
    rw [if_neg (by omega), hb, if_neg (by omega), Int.toNat_natCast, hc]
    dsimp only
    rw [if_pos rfl, ← e1, takePs_back hg h n (t + 1) _ (by omega)]
    refine congrArg (fun q => (0, _, q)) (funext fun k => ?_)
    unfold setP
    by_cases hk : k = t
    · subst hk
      rw [if_neg (by omega), if_pos rfl, if_pos (by omega)]
    · by_cases hk2 : t + 1 ≤ k ∧ k < thr
      · rw [if_pos hk2, if_pos (by omega)]
      · rw [if_neg hk2, if_neg hk, if_neg (by omega)]
theorem putEs_len0 (s : Scr) : ∀ k, (putEs s k).length = (putPs s (s.c 1).toNat).length + k
  | 0 => rfl
  | k + 1 => by unfold putEs; rw [List.length_append, putEs_len0 s k]; rfl
theorem pre_es {s : Scr} {B : List Int} {n : Nat} (h : Pre (putEs s n) B) : ∀ d, d ≤ n → Pre (putEs s (n - d)) B
  | 0, _ => h
  | d + 1, hd => by
    have h1 := pre_es h d (by omega)
    rw [show n - d = (n - (d + 1)) + 1 by omega] at h1
    exact Pre.of_app (C := [((enN s.e (n - (d + 1))).th + 8 * (enN s.e (n - (d + 1))).wh) % 256]) h1
theorem takeEs_back {s : Scr} {B : List Int} {thr : Int} (h8 : thr ≤ 8) (hg : ∀ k, k < s.e.length → GoodE thr (enN s.e k)) (hn : s.e.length ≤ 60000) (h : Pre (putEs s s.e.length) B) : ∀ n k, k + n = s.e.length →
    takeEs B thr n ((putPs s (s.c 1).toNat).length + k) (s.e.take k) = (0, s.e)
  | 0, k, hk => by
    obtain rfl : k = s.e.length := by omega
    unfold takeEs
    rw [List.take_length]
  | n + 1, k, hk => by
    have h1 : Pre (putEs s (k + 1)) B := by
      have := pre_es h (s.e.length - (k + 1)) (by omega)
      rwa [show s.e.length - (s.e.length - (k + 1)) = k + 1 by omega] at this
    obtain ⟨g1, g2, g3, g4⟩ := hg k (by omega)
    have hb : byN B ((putPs s (s.c 1).toNat).length + k) = (enN s.e k).th + 8 * (enN s.e k).wh := by
      have := Pre.at_ (A := putEs s k) (C := [((enN s.e k).th + 8 * (enN s.e k).wh) % 256]) h1 (j := 0) (by simp)
      rw [Nat.add_zero, putEs_len0] at this
      unfold byN
      rw [this]
      show ((enN s.e k).th + 8 * (enN s.e k).wh) % 256 = _
      omega
    unfold takeEs
    rw [hb, if_neg (by rw [List.length_take]; omega), if_neg (by omega)]
    have he : (⟨((enN s.e k).th + 8 * (enN s.e k).wh) % 8, ((enN s.e k).th + 8 * (enN s.e k).wh) / 8⟩ : Ent) = enN s.e k := by
      have a1 : ((enN s.e k).th + 8 * (enN s.e k).wh) % 8 = (enN s.e k).th := by omega
      have a2 : ((enN s.e k).th + 8 * (enN s.e k).wh) / 8 = (enN s.e k).wh := by omega
      rw [a1, a2]
    rw [he]
    have ht : s.e.take k ++ [enN s.e k] = s.e.take (k + 1) := by
      rw [List.take_add_one, List.getElem?_eq_getElem (by omega)]
      unfold enN
      rw [List.getD_eq_getElem?_getD, List.getElem?_eq_getElem (by omega)]
      rfl
    rw [ht]
    exact takeEs_back h8 hg hn h n (k + 1) (by omega)
end Go.Proofs.YtdbankogamolcaaDoor
namespace Go.Proofs.YtdbankogamolcaaDoor
set_option linter.unusedSimpArgs false
set_option linter.unusedVariables false
open Go.ChangeShapes Go.WideShapes Go.ChangeAt Go.RowKit

theorem clsB_inv {L : List Cl} {b : Bool} : ∀ {n : Nat}, clsB L b n = false → ∀ k, k < n → GoodC (clN L k)
  | 0, _, k, hk => absurd hk (Nat.not_lt_zero _)
  | n + 1, h, k, hk => by
    obtain ⟨h1, h2⟩ := Bool.or_eq_false_iff.1 h
    rcases Nat.lt_succ_iff_lt_or_eq.1 hk with h3 | rfl
    · exact clsB_inv h1 k h3
    · unfold GoodC
      simpa using h2
theorem prB_inv {s : Scr} {lv : Int} {b : Bool} : ∀ {n : Nat}, prB s lv b n = false → ∀ t, t < n → s.c (2 + t) ≤ lv → ∀ k, k < (s.p t).length → GoodC (clN (s.p t) k)
  | 0, _, t, ht, _ => absurd ht (Nat.not_lt_zero _)
  | n + 1, h, t, ht, hc => by
    unfold prB at h
    rcases Nat.lt_succ_iff_lt_or_eq.1 ht with h3 | rfl
    · cases hd : decide (s.c (2 + n) ≤ lv) with
      | true => rw [hd] at h; exact prB_inv (clsB_start h) t h3 hc
      | false => rw [hd] at h; exact prB_inv h t h3 hc
    · rw [decide_eq_true hc] at h
      exact clsB_inv h
theorem prL_inv {s : Scr} {lv : Int} : ∀ {n : Nat}, prL s lv n = false → ∀ t, t < n → s.c (2 + t) ≤ lv → (s.p t).length ≤ 40
  | 0, _, t, ht, _ => absurd ht (Nat.not_lt_zero _)
  | n + 1, h, t, ht, hc => by
    unfold prL at h
    rcases Nat.lt_succ_iff_lt_or_eq.1 ht with h3 | rfl
    · cases hd : decide (s.c (2 + n) ≤ lv) with
      | true => rw [hd] at h; exact prL_inv (Bool.or_eq_false_iff.1 h).1 t h3 hc
      | false => rw [hd] at h; exact prL_inv h t h3 hc
    · rw [decide_eq_true hc] at h
      have := of_decide_eq_false (Bool.or_eq_false_iff.1 h).2
      omega
theorem good_bounds {x : Cl} (h : GoodC x) : 0 ≤ x.op ∧ x.op ≤ 12 ∧ 0 ≤ x.l ∧ x.l ≤ 3 ∧ 0 ≤ x.r ∧ x.r ≤ 40 := by
  unfold GoodC mayC at h
  simp only [Bool.and_eq_true, decide_eq_true_eq] at h
  omega
theorem conf_byte {c : Nat → Int} (h : mayB c = true) : ∀ i, i < 14 → i ≠ 12 → 0 ≤ c i ∧ c i ≤ 255 := fun i hi h12 => by
  obtain ⟨h0, h1, ho, h10, h11, -, h13⟩ := may_bounds h
  by_cases h2 : 2 ≤ i ∧ i < 10
  · have := ho (i - 2) (by omega)
    unfold okT at this
    rw [show 2 + (i - 2) = i by omega] at this
    split at this
    · simp only [Bool.and_eq_true, decide_eq_true_eq] at this; omega
    · simp only [Bool.and_eq_true, decide_eq_true_eq] at this; omega
  · match i, hi with
    | 0, _ => omega
    | 1, _ => omega
    | 10, _ => omega
    | 11, _ => omega
    | 12, _ => exact absurd rfl h12
    | 13, _ => omega
    | 2, _ | 3, _ | 4, _ | 5, _ | 6, _ | 7, _ | 8, _ | 9, _ => exact absurd (by omega) h2
theorem putHd_low (c : Nat → Int) : ∀ i, i < 12 → (putHd c).getD i 0 = c i % 256 := fun i hi => by
  match i, hi with
  | 0, _ | 1, _ | 2, _ | 3, _ | 4, _ | 5, _ | 6, _ | 7, _ | 8, _ | 9, _ | 10, _ | 11, _ => rfl
theorem takeC_put {c : Nat → Int} {B : List Int} (hm : mayB c = true) (h : Pre (putHd c) B) : ∀ i, i < 14 → takeC B i = c i := fun i hi => by
  have hl := putHd_len c
  by_cases h1 : i < 12
  · have hb := conf_byte hm i hi (by omega)
    have e : takeC B i = byN B i := if_pos h1
    rw [e]
    unfold byN
    rw [h.get (by omega), putHd_low c i h1]
    omega
  · by_cases h2 : i = 12
    · subst h2
      obtain ⟨-, -, -, -, -, h12, -⟩ := may_bounds hm
      have e : takeC B 12 = atN B 12 3 3 := rfl
      rw [e]
      have q : Pre ((putOf c 8 ++ [c 10 % 256, c 11 % 256]) ++ numB (IntKind.u64.wrap (c 12)) 3) B := Pre.of_app (C := [c 13 % 256]) h
      have hw : IntKind.u64.wrap (c 12) = c 12 := by rw [IntKind.wrap_u64]; omega
      rw [hw] at q
      refine atN_back _ 3 (fun k hk => ?_) ⟨by omega, by have : (256 : Int) ^ 3 = 16777216 := rfl; omega⟩
      have := q.at_ (j := k) (by rw [numB_len]; exact hk)
      rwa [List.length_append, putOf_len, show List.length [c 10 % 256, c 11 % 256] = 2 from rfl] at this
    · obtain rfl : i = 13 := by omega
      have hb := conf_byte hm 13 (by omega) (by omega)
      have e : takeC B 13 = byN B 15 := rfl
      rw [e]
      have := Pre.at_ (A := putOf c 8 ++ [c 10 % 256, c 11 % 256] ++ numB (IntKind.u64.wrap (c 12)) 3) (C := [c 13 % 256]) h (j := 0) (by simp)
      rw [List.length_append, List.length_append, putOf_len, numB_len] at this
      unfold byN
      have e2 : B.getD 15 0 = c 13 % 256 := this
      rw [e2]
      omega
/-- What is put is taken as the same. -/
theorem take_put {s : Scr} (hl : LimS s) (h : rightN s (allL s) = 0) : (takeN (putS18 s)).1 = 0 ∧ sameS (takeN (putS18 s)).2 s = true := by
  obtain ⟨hm, ha, hp, hL, hn⟩ := rightN_zero.1 h
  have hall := allL_may hm
  have hbd := may_bounds hm
  have hthr : ((s.c 1).toNat : Int) = s.c 1 := by omega
  have hlev : ∀ t, t < (s.c 1).toNat → s.c (2 + t) ≤ allL s := fun t ht => by
    have := hbd.2.2.1 t (by omega)
    unfold okT at this
    rw [if_neg (by omega)] at this
    simp only [Bool.and_eq_true, decide_eq_true_eq] at this
    omega
  have hg : ∀ t, t < (s.c 1).toNat → (s.p t).length ≤ 40 ∧ ∀ k, k < (s.p t).length → BytC (clN (s.p t) k) ∧ GoodC (clN (s.p t) k) := fun t ht => by
    refine ⟨prL_inv hL t ht (hlev t ht), fun k hk => ?_⟩
    have g := prB_inv hp t ht (hlev t ht) k hk
    have gb := good_bounds g
    exact ⟨⟨okC_of (hl.cl t (by omega) k hk), by omega, by omega, by omega⟩, g⟩
  have hents := right_ents h
  unfold argB at ha
  obtain ⟨ha1, ha2⟩ := Bool.or_eq_false_iff.1 ha
  rw [List.any_eq_false] at ha1 ha2
  have hge : ∀ k, k < s.e.length → GoodE (s.c 1) (enN s.e k) := fun k hk => by
    obtain ⟨t1, -, t3, t4⟩ := hents k hk
    have := ha2 k (List.mem_range.2 hk)
    have h4 : ¬ lvE s k < 0 := fun h => this (decide_eq_true h)
    refine ⟨t1, ?_, t3, t4⟩
    rcases lvl_bounds s.c (enN s.e k).th with ⟨h5, _⟩ | ⟨_, _, _, _, _, h8, _⟩
    · exact absurd (by unfold lvE; rw [h5]; decide) h4
    · exact h8
  have hen : s.e.length ≤ 60000 := by
    have : ∀ n, n ≤ s.e.length → entN s (allL s) n = n := by
      intro n
      induction n with
      | zero => intro _; rfl
      | succ n ih =>
        intro hn
        unfold entN
        obtain ⟨t1, t2, -, -⟩ := hge n (by omega)
        have hv : lvE s n ≤ allL s := by
          unfold lvE
          rcases lvl_bounds s.c (enN s.e n).th with ⟨h5, _⟩ | ⟨_, h6, _⟩
          · rw [h5]; omega
          · omega
        rw [ih (by omega), decide_eq_true hv]; rfl
    rw [this _ (Nat.le_refl _)] at hn
    exact hn
  have pe : Pre (putEs s s.e.length) (putS18 s) := ⟨[], by unfold putS18; rw [List.append_nil]⟩
  have pp : Pre (putPs s (s.c 1).toNat) (putS18 s) := by
    have := pre_es pe s.e.length (Nat.le_refl _)
    rwa [Nat.sub_self] at this
  have ph : Pre (putHd s.c) (putS18 s) := by
    have := pre_ps pp (s.c 1).toNat (Nat.le_refl _)
    rwa [Nat.sub_self] at this
  have hB := takeC_put hm ph
  have hlen : (putS18 s).length = (putPs s (s.c 1).toNat).length + s.e.length := putEs_len0 s _
  have h16 := ph.len
  rw [putHd_len] at h16
  have hmB : mayB (takeC (putS18 s)) = true := by rw [mayB_congr hB]; exact hm
  have hb1 : byN (putS18 s) 1 = s.c 1 := hB 1 (by omega)
  have tp := takePs_back hg pp (s.c 1).toNat 0 (fun _ => []) (by omega)
  have e0 : (putPs s 0).length = 16 := putHd_len s.c
  rw [e0] at tp
  have te := takeEs_back (by omega) hge hen pe s.e.length 0 (by omega)
  rw [Nat.add_zero, List.take_zero] at te
  unfold takeN
  rw [if_neg (by omega), if_neg (by rw [hmB]; decide), hb1, tp]
  dsimp only
  rw [if_pos rfl, show (putS18 s).length - (putPs s (s.c 1).toNat).length = s.e.length by omega, te]
  dsimp only
  rw [if_pos rfl]
  refine ⟨rfl, ?_⟩
  unfold sameS
  rw [decide_eq_true (rfl : s.e = s.e), Bool.true_and, Bool.and_eq_true]
  refine ⟨eqI_iff.2 hB, ?_⟩
  unfold sameP
  rw [List.all_eq_true]
  intro t ht
  refine decide_eq_true ?_
  show (if 0 ≤ t ∧ t < (s.c 1).toNat then s.p t else []) = s.p t
  by_cases h1 : t < (s.c 1).toNat
  · rw [if_pos ⟨Nat.zero_le _, h1⟩]
  · rw [if_neg (by omega)]
    have h2 := ha1 t ht
    unfold argP at h2
    have h3 : lvl s.c (t : Int) < 0 := by
      rcases lvl_bounds s.c (t : Int) with ⟨h5, _⟩ | ⟨_, _, _, _, _, h8, _⟩
      · omega
      · omega
    rw [decide_eq_true h3, Bool.true_and, decide_eq_true_eq] at h2
    exact (List.eq_nil_of_length_eq_zero (by omega)).symm
end Go.Proofs.YtdbankogamolcaaDoor
namespace Go.Proofs.YtdbankogamolcaaDoor
set_option linter.unusedSimpArgs false
set_option linter.unusedVariables false
open Go.ChangeShapes Go.WideShapes Go.ChangeAt Go.RowKit

theorem topN_right {s : Scr} (h : rightN s (allL s) = 0) : topN s = s.c 0 - 1 := by
  obtain ⟨hm, -⟩ := rightN_zero.1 h
  have hb := may_bounds hm
  have ha := allL_may hm
  obtain ⟨k, hk⟩ : ∃ k : Nat, s.c 0 = (k : Int) + 1 := ⟨(s.c 0 - 1).toNat, by omega⟩
  unfold topN
  rw [show (min (s.c 0) 4).toNat = k + 1 by omega, topUp, show ((k : Nat) : Int) = allL s by rw [ha]; omega, decide_eq_true h]
  show allL s = _
  rw [ha]
/-- Bytes, one by one. -/
def ByL (L : List Int) : Prop := ∀ x ∈ L, 0 ≤ x ∧ x ≤ 255
theorem ByL.byt {L : List Int} (h : ByL L) : Byt L := fun i => by
  rw [List.getD_eq_getElem?_getD]
  cases he : L[i]? with
  | none => exact ⟨Int.le_refl _, by show (0 : Int) ≤ 255; decide⟩
  | some x => exact h x (List.mem_of_getElem? he)
theorem ByL.app {L M : List Int} (h : ByL L) (k : ByL M) : ByL (L ++ M) := fun x hx => by
  rcases List.mem_append.1 hx with h1 | h1
  · exact h x h1
  · exact k x h1
theorem byL_nil : ByL [] := fun x hx => absurd hx (List.not_mem_nil)
theorem byL_cons {y : Int} {L : List Int} (h : ByL L) : ByL (y % 256 :: L) := fun x hx => by
  rcases List.mem_cons.1 hx with rfl | h1
  · omega
  · exact h x h1
theorem byL_num (n : Int) : ∀ k, ByL (numB n k)
  | 0 => byL_nil
  | k + 1 => by unfold numB; exact (byL_num n k).app (byL_cons byL_nil)
theorem byL_putC (x : Cl) : ByL (putC x) := by
  unfold putC
  exact ((((byL_cons (byL_cons (byL_cons byL_nil))).app (byL_num _ _)).app (byL_num _ _)).app (byL_num _ _)).app (byL_num _ _)
theorem byL_putOf (c : Nat → Int) : ∀ t, ByL (putOf c t)
  | 0 => byL_cons (byL_cons byL_nil)
  | t + 1 => by unfold putOf; exact (byL_putOf c t).app (byL_cons byL_nil)
theorem byL_putHd (c : Nat → Int) : ByL (putHd c) := by
  unfold putHd
  exact (((byL_putOf c 8).app (byL_cons (byL_cons byL_nil))).app (byL_num _ _)).app (byL_cons byL_nil)
theorem byL_putCs (L : List Cl) (M : List Int) (h : ByL M) : ∀ k, ByL (putCs L M k)
  | 0 => h.app (byL_cons byL_nil)
  | k + 1 => by unfold putCs; exact (byL_putCs L M h k).app (byL_putC _)
theorem byL_putPs (s : Scr) : ∀ t, ByL (putPs s t)
  | 0 => byL_putHd _
  | t + 1 => by unfold putPs; exact byL_putCs _ _ (byL_putPs s t) _
theorem byL_putEs (s : Scr) : ∀ k, ByL (putEs s k)
  | 0 => byL_putPs _ _
  | k + 1 => by unfold putEs; exact (byL_putEs s k).app (byL_cons byL_nil)
theorem byt_put (s : Scr) : Byt (putS18 s) := (byL_putEs s _).byt
theorem put_long {s : Scr} (hl : LimS s) (h : rightN s (allL s) = 0) : (putS18 s).length ≤ 2000000 := by
  obtain ⟨hm, -⟩ := rightN_zero.1 h
  have hb := may_bounds hm
  have h1 := putEs_len hl.pl (show (s.c 1).toNat ≤ 8 by omega) s.e.length
  have h2 := hl.el
  unfold putS18
  omega
/-- All programs' calls are such as a predicate holds of. -/
theorem takeCls_all {Q : Cl → Prop} (L : List Int) (hq : ∀ j, Q (takeCl L j)) : ∀ n i P, (∀ x ∈ P, Q x) → ∀ x ∈ (takeCls L n i P).2.2, Q x
  | 0, i, P, h => h
  | n + 1, i, P, h => by
    unfold takeCls
    split
    · exact h
    · split
      · exact h
      · refine takeCls_all L hq n _ _ fun x hx => ?_
        rcases List.mem_append.1 hx with h1 | h1
        · exact h x h1
        · rw [List.mem_singleton] at h1
          subst h1
          exact hq i
theorem takePs_all {Q : Cl → Prop} (L : List Int) (hq : ∀ j, Q (takeCl L j)) : ∀ n t i p, (∀ k, ∀ x ∈ p k, Q x) → ∀ k, ∀ x ∈ (takePs L n t i p).2.2 k, Q x
  | 0, t, i, p, h => h
  | n + 1, t, i, p, h => by
    unfold takePs
    split
    · exact h
    · split
      · exact h
      · dsimp only
        split
        · refine takePs_all L hq n _ _ _ fun k => ?_
          unfold setP
          split
          · exact takeCls_all L hq _ _ [] fun x hx => absurd hx (List.not_mem_nil)
          · exact h k
        · exact h
theorem takeEs_all {Q : Ent → Prop} (L : List Int) (thr : Int) (hq : ∀ j, Q ⟨byN L j % 8, byN L j / 8⟩) : ∀ n i E, (∀ x ∈ E, Q x) → ∀ x ∈ (takeEs L thr n i E).2, Q x
  | 0, i, E, h => h
  | n + 1, i, E, h => by
    unfold takeEs
    split
    · exact h
    · split
      · exact h
      · refine takeEs_all L thr hq n _ _ fun x hx => ?_
        rcases List.mem_append.1 hx with h1 | h1
        · exact h x h1
        · rw [List.mem_singleton] at h1
          subst h1
          exact hq i
theorem takeCl_ok {L : List Int} (h : Byt L) (j : Nat) : OkCl (takeCl L j) := by
  have hb : ∀ i, I64 (byN L i) := fun i => by have := byN_bound h i; unfold I64; omega
  have hn : ∀ i, 0 ≤ atN L i 8 8 ∧ atN L i 8 8 < 18446744073709551616 := fun i => by
    have := atN_bound h i 8 8
    rwa [show (256 : Int) ^ 8 = 18446744073709551616 from rfl] at this
  refine ⟨hb _, hb _, ?_, hn _, hn _, hn _, hb _⟩
  have := hn (j + 3)
  show I64 (sgnN _)
  unfold sgnN I64
  split <;> omega
theorem take_lim {L : List Int} (h : Byt L) : LimS (takeN L).2 := by
  obtain ⟨l1, l2⟩ := takeN_lim L
  have hno : LimS noScr := ⟨fun _ => by show _ ≤ (0 : Int) ∧ (0 : Int) ≤ _; omega, Nat.zero_le _, fun _ _ => Nat.zero_le _, fun _ _ k hk => absurd hk (Nat.not_lt_zero _), fun k hk => absurd hk (Nat.not_lt_zero _)⟩
  revert l1 l2
  unfold takeN
  split
  · intro _ _; exact hno
  · split
    · intro _ _; exact hno
    · dsimp only
      split
      · split
        · intro l1 l2
          have hE : ∀ x ∈ (takeEs L (byN L 1) (L.length - (takePs L (byN L 1).toNat 0 16 (fun _ => [])).2.1) (takePs L (byN L 1).toNat 0 16 (fun _ => [])).2.1 []).2, OkEnt x := takeEs_all (Q := OkEnt) L _ (fun j => by have := byN_bound h j; unfold OkEnt I64; dsimp only; omega) _ _ _ fun x hx => absurd hx (List.not_mem_nil)
          have hP : ∀ k, ∀ x ∈ (takePs L (byN L 1).toNat 0 16 (fun _ => [])).2.2 k, OkCl x := takePs_all (Q := OkCl) L (takeCl_ok h) _ _ _ _ fun _ x hx => absurd hx (List.not_mem_nil)
          exact ⟨takeC_ok h, Nat.le_trans l1 (by omega), fun t _ => Nat.le_trans (l2 t) (by omega), fun t _ k hk => hP t _ (getD_mem' hk), fun k hk => hE _ (getD_mem' hk)⟩
        · intro _ _; exact hno
      · intro _ _; exact hno
end Go.Proofs.YtdbankogamolcaaDoor
