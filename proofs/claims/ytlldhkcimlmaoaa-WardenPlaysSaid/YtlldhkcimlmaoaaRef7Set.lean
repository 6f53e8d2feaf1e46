/- The document's warden: a slot becomes another one. -/
import Derived.Test.YtlldhkcimlmaoaaRef7
import Derived.Deep.DeepCutAuto
import Derived.Deep.WholeRow
import Derived.Deep.AppendLies
namespace Go.Proofs.Ytlldhkcimlmaoaa
open Go.ChangeShapes Go.WideShapes Go.ChangeAt Go.RowKit Go.Maps

theorem rowOf_mem {n : Nat} {f : Nat → Value} (h : ∀ i, (f i).oneCell' = true) : ∀ v ∈ (rowOf n f).toList, v.oneCell' = true := by
  intro v hv
  simp only [rowOf, List.mem_map] at hv
  obtain ⟨i, _, rfl⟩ := hv
  exact h i
theorem info_lists : ∃ i, Try.prog.info? 54 = some i ∧ i.zero = some (.slice none 0 0) ∧ i.size = 1 ∧ i.bytes = 24 := by
  have h : (Try.prog.info? 54).map (fun i => (i.zero, i.size, i.bytes)) = some (some (.slice none 0 0), 1, 24) := by kernel_rfl
  cases hi : Try.prog.info? 54 with
  | none => rw [hi] at h; cases h
  | some i => rw [hi] at h; simp at h; exact ⟨i, rfl, h⟩
theorem info_slots : ∃ i, Try.prog.info? 61 = some i ∧ i.zero = some (.agg #[.bool false, .int .i64 0]) ∧ i.size = 2 ∧ i.bytes = 16 := by
  have h : (Try.prog.info? 61).map (fun i => (i.zero, i.size, i.bytes)) = some (some (.agg #[.bool false, .int .i64 0]), 2, 16) := by kernel_rfl
  cases hi : Try.prog.info? 61 with
  | none => rw [hi] at h; cases h
  | some i => rw [hi] at h; simp at h; exact ⟨i, rfl, h⟩

/-- The lists of a warden's levels, and a level's slots, cell by cell. -/
def listsF (Bk Cp : Nat → Nat) (s : Ward) : Nat → Value := fun i => .slice (some ⟨Bk i, 0, none⟩) s.slots (Cp i)
def slotsF (s : Ward) (i : Nat) : Nat → Value := fun j => bif decide (j % 2 = 0) then .bool (s.held i (j / 2 + 1 : Nat)) else .int .i64 (s.gen i (j / 2 + 1))
theorem listsF_one (Bk Cp : Nat → Nat) (s : Ward) (i : Nat) : (listsF Bk Cp s i).oneCell' = true := rfl
theorem slotsF_one (s : Ward) (i j : Nat) : (slotsF s i j).oneCell' = true := by unfold slotsF; cases decide (j % 2 = 0) <;> rfl
theorem slotsF_even (s : Ward) (i j : Nat) : slotsF s i (j * 2) = .bool (s.held i (j + 1)) := by
  unfold slotsF
  rw [decide_eq_true (by omega : j * 2 % 2 = 0), show j * 2 / 2 = j by omega]
  rfl
theorem slotsF_odd (s : Ward) (i j : Nat) : slotsF s i (j * 2 + 1) = .int .i64 (s.gen i (j + 1)) := by
  unfold slotsF
  rw [decide_eq_false (by omega : ¬ (j * 2 + 1) % 2 = 0), show (j * 2 + 1) / 2 = j by omega]
  rfl
theorem slots_cells {F : Nat → Prop} {w : World} {b : Nat} {Bk Cp : Nat → Nat} {s : Ward} (h : RefIs F w b Bk Cp s) {i : Nat} (hi : i < s.levels) {j : Nat} (hj : j < s.slots * 2) : w.cell? ⟨Bk i, j, none⟩ = some (slotsF s i j) := by
  obtain ⟨h1, h2⟩ := h.cell i (j / 2) hi (by omega)
  by_cases e : j % 2 = 0
  · have e2 : j = j / 2 * 2 := by omega
    rw [e2, slotsF_even]
    exact h1
  · have e2 : j = j / 2 * 2 + 1 := by omega
    rw [e2, slotsF_odd]
    exact h2
/-- What a warden is with one slot told otherwise. -/
def setW (s : Ward) (l j : Nat) (h : Bool) (g : Nat) : Ward := ⟨s.levels, s.slots, fun x y => bif decide (x = l ∧ y = j) then h else s.held x y, fun x y => bif decide (x = l ∧ y = j) then g else s.gen x y, s.slips⟩
/-- A list that was laid anew, read as news. -/
theorem news_of {w : World} {b n : Nat} {f : Nat → Value} (h : ∀ i, i < n → w.cell? ⟨b, i, none⟩ = some (f i)) : ∀ (j : Nat) (u : Value), (rowOf n f).toList[j]? = some u → w.cell? ((⟨b, 0, none⟩ : Addr).add j) = some u := by
  intro j u hu
  have hj : j < n := by
    rcases Nat.lt_or_ge j n with hj | hj
    · exact hj
    · rw [List.getElem?_eq_none (by rw [Array.length_toList, rowOf_size]; exact hj)] at hu; cases hu
  rw [Array.getElem?_toList, rowOf_get _ hj] at hu
  rw [add_row, Nat.zero_add, h j hj, hu]
theorem cells_get (n : Nat) (f : Nat → Value) (i : Nat) (hi : i < n) : ([] ++ (rowOf n f).toList)[i]? = some (f i) := by
  rw [List.nil_append, Array.getElem?_toList, rowOf_get _ hi]
/-- What an append onto an empty list of the call's own leaves. -/
theorem below_append {w w' : World} {T : TypeId} {n c : Nat} (hg : (w.alloc (.cells #[] T)).grownBy w' (Value.ownBlock (.slice (some ⟨w.heap.size, 0, none⟩) n c))) : Below w.heap.size w w' :=
  below_grown ((Below.refl _ _).alloc (Nat.le_refl _) _) hg (by intro k h; simp [Value.ownBlock] at h; omega) (by simp)
theorem ownP_of2 {w : World} {g base : Nat} {e : TypeId} {n cap : Nat} {xs : List Value} {f : Nat → Value} (h : w.ownsRow base e 2 (.slice (some ⟨g, 0, none⟩) n cap) n xs) (hx : ∀ i, i < n * 2 → xs[i]? = some (f i)) : OwnP w g (n * 2) f ∧ base ≤ g := by
  rcases h.2 with ⟨h', _⟩ | ⟨g', cap', cur, h', hb, hg, hn, _, hs, htake⟩
  · simp at h'
  · simp only [Value.slice.injEq, Option.some.injEq, Addr.mk.injEq, and_true, true_and] at h'
    obtain ⟨rfl, rfl⟩ := h'
    refine ⟨⟨cur, e, hg, ?_, fun i hi => ?_⟩, hb⟩
    · have := Nat.mul_le_mul_right 2 hn; omega
    · rw [← hx i hi, ← htake, List.getElem?_take, if_pos (by omega)]
      simp

theorem only_setRow (W : World) (g : Nat) (cs : Array Value) : Only (fun x => x = g) W (W.setRow g cs) :=
  ⟨below_setRow_ (Below.refl _ _) (Nat.zero_le _) _, fun i _ hn => setRow_other W g i cs hn⟩
section
variable (F : Nat → Prop) (b c : Nat) (Bk Cp : Nat → Nat) (s : Ward) (N : Nat) (hs : OkW s N) (w : World) (hr : RefIs F w b Bk Cp s) (hF : ∀ i, F i → i < w.heap.size)
include hs hr hF
set_option maxHeartbeats 4000000 in
theorem rSet_any (k i : Nat) (hk : k < s.levels) (hi : i < s.slots) (h : Bool) (gn : Nat) : Calls Try.prog 33 #[.agg #[.slice (some ⟨b, 0, none⟩) s.levels c, .int .i64 s.slips], .int .i64 k, .int .i64 ((i : Int) + 1), .agg #[.bool h, .int .i64 gn]] w
    fun e w' => ∃ b' c' Bk' Cp', e = .returned (.agg #[.slice (some ⟨b', 0, none⟩) s.levels c', .int .i64 s.slips]) ∧ RefIs F w' b' Bk' Cp' (setW s k (i + 1) h gn) ∧ Below w.heap.size w w' := by
  have b0 := hs.l1
  have b1 := hs.l4
  have b2 := hs.s1
  have b3 := hs.s60
  have HF := Lib.hid hF
  have HR2 := Lib.hid hr
  clear hs hF
  go_enter Try.func33, Try.ntmps33
  go_upto_region 1 with fail
  generalize hW : World.alloc _ _ = W
  obtain ⟨hB, hx, ho, hq⟩ := three_blocks w 30 61 30 2 2 2 (refR b c s) (slotR h gn) (fun j => match j with | 0 => .slice none 0 0 | _ => .int .i64 0) W hW
  clear hW
  have hR := hr.keep hB
  generalize hz : w.heap.size = a1 at *
  have HZ := Lib.hid hz; clear hz
  obtain ⟨u0, u1⟩ := ref_cells hx
  have HR := Lib.hid hR; have HB := Lib.hid hB; have HX := Lib.hid hx; have HO := Lib.hid ho; have HQ := Lib.hid hq
  clear hr hR hB hx ho hq
  -- the levels' list anew
  have x0 : (W.alloc (.cells #[] 54)).cell? ⟨a1, 0, none⟩ = some (.slice (some ⟨b, 0, none⟩) s.levels c) := (HX.out.alloc _).cell (i := 0) (by omega)
  have hn1 : ∀ j u, (rowOf s.levels (listsF Bk Cp s)).toList[j]? = some u → (W.alloc (.cells #[] 54)).cell? ((⟨b, 0, none⟩ : Addr).add j) = some u :=
    news_of fun i hi => ((HR.out.keep ((Below.refl _ _).alloc (Nat.le_refl _) _)).row i hi)
  have ho1 := World.ownsRow_lit (base := W.heap.size) (e := 54) (size := 1) W #[] 0 (Nat.le_refl _) (by decide) rfl
  have HX1 := Lib.hid (And.intro hn1 ho1)
  clear hn1 ho1 u0 u1
  obtain ⟨i0, hi0, hz0, hz1, hz3⟩ := info_lists
  go_upto_region 2 with (at_builtin; refine wpList_append_lies _ rfl _ _ 28 rfl W.heap.size 54 i0 (.slice none 0 0) 1 24 Try.underlying28 hi0 hz0 hz1 hz3 rfl (by decide) (.slice (some ⟨W.heap.size, 0, none⟩) 0 0) 0 [] rfl HX1.out.2 ⟨b, 0, none⟩ s.levels c (rowOf s.levels (listsF Bk Cp s)).toList rfl (by rw [Array.length_toList, rowOf_size, Nat.mul_one]) HX1.out.1 (rowOf_mem fun _ => rfl) (by omega) (by unfold maxLen; omega) (by omega) (by simp) _ rfl ?_; intro g1 c1 w1 hw1 hgr1 hgg1 hgl1; rw [Nat.zero_add] at hw1 ⊢)
  obtain ⟨hP1, hg1⟩ := ownP_of hw1 (cells_get s.levels (listsF Bk Cp s))
  have hb1 := below_append hgr1
  have hsz := HQ.out.lt
  have hR1 := HR.out.keep hb1
  have R1 := Lib.hid hR1
  have X1 := Lib.hid (And.intro (HX.out.keep hb1) (And.intro (HO.out.keep hb1) (HQ.out.keep hb1)))
  have B1 := Lib.hid (HB.out.trans (hb1.mono (by omega)))
  have P1 := Lib.hid hP1
  have G1 : a1 + 1 + 1 < g1 := by omega
  clear hw1 hgr1 hgg1 hgl1 hP1 hg1 hb1 hR1 HX1 x0 HX HO HQ HR HB hsz
  clear hi0 hz0 hz1 hz3
  -- a level's slots anew
  have x1 : (w1.alloc (.cells #[] 61)).cell? ⟨g1, k, none⟩ = some (.slice (some ⟨Bk k, 0, none⟩) s.slots (Cp k)) := (P1.out.alloc _).cell hk
  have hn2 : ∀ j u, (rowOf (s.slots * 2) (slotsF s k)).toList[j]? = some u → (w1.alloc (.cells #[] 61)).cell? ((⟨Bk k, 0, none⟩ : Addr).add j) = some u :=
    news_of fun j hj => slots_cells (R1.out.keep ((Below.refl _ _).alloc (Nat.le_refl _) _)) hk hj
  have ho2 := World.ownsRow_lit (base := w1.heap.size) (e := 61) (size := 2) w1 #[] 0 (Nat.le_refl _) (by decide) rfl
  have HX2 := Lib.hid (And.intro hn2 ho2)
  clear hn2 ho2
  have t1 : decide (k < s.levels) = true := by simp [hk]
  have t2 : decide (i < s.slots) = true := by simp [hi]
  obtain ⟨i1, hj0, hy0, hy1, hy3⟩ := info_slots
  go_upto_region 3 with (at_builtin; refine wpList_append_lies _ rfl _ _ 54 rfl w1.heap.size 61 i1 (.agg #[.bool false, .int .i64 0]) 2 16 Try.underlying54 hj0 hy0 hy1 hy3 rfl (by decide) (.slice (some ⟨w1.heap.size, 0, none⟩) 0 0) 0 [] rfl HX2.out.2 ⟨Bk k, 0, none⟩ s.slots (Cp k) (rowOf (s.slots * 2) (slotsF s k)).toList rfl (by rw [Array.length_toList, rowOf_size]) HX2.out.1 (rowOf_mem (slotsF_one s k)) (by omega) (by unfold maxLen; omega) (by omega) (by simp) _ rfl ?_; intro g2 c2 w2 hw2 hgr2 hgg2 hgl2; rw [Nat.zero_add] at hw2 ⊢)
  obtain ⟨hP2, hg2⟩ := ownP_of2 hw2 (cells_get (s.slots * 2) (slotsF s k))
  have hb2 := below_append hgr2
  have hP1' := P1.out.keep hb2
  have G2 : g1 < g2 := by have := P1.out.lt; omega
  have hR2 := R1.out.keep hb2
  have hx2 := X1.out.1.keep hb2
  have ho2 := X1.out.2.1.keep hb2
  have hq2 := X1.out.2.2.keep hb2
  have hB2 := B1.out.trans (hb2.mono (by have := P1.out.lt; omega))
  clear hw2 hgr2 hgg2 hgl2 hg2 hb2 HX2 x1 P1 R1 X1 B1 hj0 hy0 hy1 hy3
  obtain ⟨u0, u1⟩ := ref_cells hx2
  have uf := hx2.frozen 0
  have o0 : w2.cell? ⟨a1 + 1, 0, none⟩ = some (.bool h) := ho2.cell (i := 0) (by omega)
  have o1 : w2.cell? ⟨a1 + 1, 1, none⟩ = some (.int .i64 gn) := ho2.cell (i := 1) (by omega)
  have p0 := hP2.cell (i := i * 2) (by omega)
  have p1 := hP2.cell (i := i * 2 + 1) (by omega)
  have pf0 := hP2.frozen (i * 2)
  have pf1 := hP2.frozen (i * 2 + 1)
  have q0 := hP1'.cell hk
  have qf := hP1'.frozen k
  have n0 : g2 ≠ g1 := by omega
  have n1 : g1 ≠ g2 := by omega
  have n2 : g1 ≠ a1 := by omega
  have n3 : a1 ≠ g1 := by omega
  have n4 : g2 ≠ a1 := by omega
  have n5 : a1 ≠ g2 := by omega
  have n6 : a1 + 1 + 1 ≠ g1 := by omega
  have n7 : a1 + 1 + 1 ≠ g2 := by omega
  have n8 : a1 + 1 + 1 ≠ a1 := by omega
  have H2 := Lib.hid (And.intro hP1' (And.intro hP2 (And.intro hx2 (And.intro hq2 hB2))))
  clear hP1' hP2 hR2 hx2 ho2 hq2 hB2
  go_upto_region 6 with fail
  generalize hW4 : World.setCell _ _ _ = W4
  have hx4 : Row W4 a1 30 2 (refR g1 c1 s) := by
    rw [← hW4]
    exact ((((H2.out.2.2.1.far n5 _).far n5 _).far n3 _).set_ 0 _).congr fun j hj => by
      match j, hj with
      | 0, _ => rfl
      | 1, _ => rfl
  have hq4 : Row W4 (a1 + 1 + 1) 30 2 (fun j => match j with | 0 => .slice none 0 0 | _ => .int .i64 0) := by
    rw [← hW4]
    exact (((H2.out.2.2.2.1.far n7 _).far n7 _).far n6 _).far n8 _
  have hP14 : OwnP W4 g1 s.levels (fun j => if j = k then .slice (some ⟨g2, 0, none⟩) s.slots c2 else listsF Bk Cp s j) := by
    rw [← hW4]
    exact (((H2.out.1.far n1 _).far n1 _).set_ k _).far n2 _
  have hP24 : OwnP W4 g2 (s.slots * 2) (fun j => if j = i * 2 + 1 then .int .i64 gn else if j = i * 2 then .bool h else slotsF s k j) := by
    rw [← hW4]
    exact (((H2.out.2.1.set_ (i * 2) _).set_ (i * 2 + 1) _).far n0 _).far n4 _
  have hB4 : Below a1 w W4 := by
    rw [← hW4]
    exact (((H2.out.2.2.2.2.setCell (by show a1 ≤ g2; omega) _).setCell (by show a1 ≤ g2; omega) _).setCell (by show a1 ≤ g1; omega) _).setCell (Nat.le_refl _) _
  clear hW4 H2 u0 u1 uf o0 o1 p0 p1 pf0 pf1 q0 qf
  have HF2 : Hid (∀ w', Only (fun x => x = a1 + 1 + 1) W4 w' → ∃ b' c' Bk' Cp', Ending.returned (.agg (rowOf 2 (refR g1 c1 s))) = .returned (.agg #[.slice (some ⟨b', 0, none⟩) s.levels c', .int .i64 s.slips]) ∧ RefIs F w' b' Bk' Cp' (setW s k (i + 1) h gn) ∧ Below w.heap.size w w') := Lib.hid fun w' ho => by
    have r1 := hP14.only ho (fun e => by have e' : g1 = a1 + 1 + 1 := e; omega)
    have r2 := hP24.only ho (fun e => by have e' : g2 = a1 + 1 + 1 := e; omega)
    have hb' : Below a1 w w' := Below.only hB4 ho (Nat.le_of_lt hx4.lt) (fun x e => by have e' : x = a1 + 1 + 1 := e; omega)
    have hr' := HR2.out.keep (by rw [HZ.out]; exact hb')
    have hsz := HR2.out.blks
    refine ⟨g1, c1, fun j => if j = k then g2 else Bk j, fun j => if j = k then c2 else Cp j, rfl, ⟨r1.lt, fun hf => by have := HF.out _ hf; omega, fun j hj => ?_, fun j hj => ?_, fun j j' hj hj' => ?_⟩, by rw [HZ.out]; exact hb'⟩
    · have h1 := r1.cell (i := j) hj
      by_cases e : j = k
      · rw [if_pos e] at h1
        show _ = some (Value.slice (some ⟨if j = k then g2 else Bk j, 0, none⟩) s.slots (if j = k then c2 else Cp j))
        rw [if_pos e, if_pos e]
        exact h1
      · rw [if_neg e] at h1
        show _ = some (Value.slice (some ⟨if j = k then g2 else Bk j, 0, none⟩) s.slots (if j = k then c2 else Cp j))
        rw [if_neg e, if_neg e]
        exact h1
    · show (if j = k then g2 else Bk j) < _ ∧ ¬ F (if j = k then g2 else Bk j)
      by_cases e : j = k
      · rw [if_pos e]
        exact ⟨r2.lt, fun hf => by have := HF.out _ hf; omega⟩
      · rw [if_neg e]
        exact hr'.blks j hj
    · show w'.cell? ⟨if j = k then g2 else Bk j, j' * 2, none⟩ = some (.bool (bif decide ((j : Int) = k ∧ ((j' : Int) + 1) = ((i + 1 : Nat) : Int)) then h else s.held j (j' + 1))) ∧ w'.cell? ⟨if j = k then g2 else Bk j, j' * 2 + 1, none⟩ = some (.int .i64 ((bif decide (j = k ∧ j' + 1 = i + 1) then gn else s.gen j (j' + 1) : Nat)))
      have hj2 : j' < s.slots := hj'
      by_cases e : j = k
      · subst e
        rw [if_pos rfl]
        have h1 := r2.cell (i := j' * 2) (by omega)
        have h2 := r2.cell (i := j' * 2 + 1) (by omega)
        rw [if_neg (by omega : ¬ j' * 2 = i * 2 + 1)] at h1
        rw [if_neg (by omega : ¬ j' * 2 + 1 = i * 2)] at h2
        by_cases e2 : j' = i
        · subst e2
          rw [if_pos rfl] at h1 h2
          rw [decide_eq_true (by omega), decide_eq_true ⟨rfl, rfl⟩]
          exact ⟨h1, h2⟩
        · rw [if_neg (by omega), slotsF_even] at h1
          rw [if_neg (by omega), slotsF_odd] at h2
          rw [decide_eq_false (by omega), decide_eq_false (by omega)]
          exact ⟨h1, h2⟩
      · rw [if_neg e, decide_eq_false (by omega), decide_eq_false (fun h => e h.1)]
        exact hr'.cell j j' hj hj'
  obtain ⟨u0, u1⟩ := ref_cells hx4
  have f2 : #[Value.slice (some ⟨g1, 0, none⟩) s.levels c1, .int .i64 s.slips] = rowOf 2 (refR g1 c1 s) := rfl
  have f1 : (rowOf 2 (refR g1 c1 s)).all (·.oneCell') = true := rowOf_one fun j => by
    match j with
    | 0 => rfl
    | _ + 1 => rfl
  have F1 := Lib.hid f1
  have HQ4 := Lib.hid hq4
  clear f1 hq4 hP14 hP24 hB4 hx4
  go_wp2_with (refine wpList_store_row rfl 30 _ _ rfl (a1 + 1 + 1) (rowOf 2 (refR g1 c1 s)) rfl rfl 30 (rowOf 2 (fun j => match j with | 0 => .slice none 0 0 | _ => .int .i64 0)) HQ4.out (by kernel_rfl) rfl F1.out ?_)
  exact bodyPost_ret (results_cell_row (p := 8) (ty := 30) (by kernel_rfl) _ _ (a1 + 1 + 1) 30 (rowOf 2 (refR g1 c1 s)) (0, 0) _ rfl (Row.setRow_ HQ4.out _) Try.underlying30 rfl (by kernel_rfl)) rfl
    (HF2.out _ (only_setRow _ _ _))
end
end Go.Proofs.Ytlldhkcimlmaoaa
