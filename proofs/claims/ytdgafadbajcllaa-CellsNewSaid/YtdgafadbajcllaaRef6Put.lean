/- What burnbagref06.Do answers where a word changes. -/
import Derived.Test.YtdgafadbajcllaaRef6
namespace Go.Proofs.Ytdgafadbajcllaa
open Go.ChangeShapes Go.WideShapes Go.ChangeAt Go.RowKit

section
variable (A : Option Addr) (c : Nat) (s : Mem) (hs : OkM s) (o : Opn) (w : World) (hA : RowIs w A s.n (us s.f))
include hs hA
omit hs hA in
theorem words_get (n : Nat) (f : Nat → Nat) (i : Nat) (hi : i < n) : ([] ++ (rowOf n (us f)).toList)[i]? = some (us f i) := by
  rw [List.nil_append, Array.getElem?_toList, rowOf_get _ hi]

set_option maxHeartbeats 4000000 in
theorem cDo_store (k : Nat) (hk : o.a = k) (hkn : k < s.n) (h1 : o.k = 1) : Calls Try.prog 10 #[.agg (rowOf 6 (memV (.slice A s.n c) s)), .agg (rowOf 4 (opR o))] w (DoPost w A (putS (inS s k) k o.v) 0 false) := by
  have b0 := hs.acc0
  have b1 := hs.acc1
  have b2 := hs.top
  have b3 := hs.wr0
  have b4 := hs.wr1
  obtain ⟨b, off, rfl, hb⟩ := hA (by omega)
  have HA := Lib.hid hb
  clear hs hA hb
  go_enter Try.func10, Try.ntmps10
  go_upto_region 1 with fail
  generalize hW : World.alloc _ _ = W
  obtain ⟨hB, hr, ho, hq⟩ := three_blocks w 31 26 31 6 4 6 (memV (.slice _ s.n c) s) (opR o) (memV (.slice none 0 0) (mem0 0 fun _ => 0)) W hW
  clear hW
  generalize hz : w.heap.size = a1 at *
  have HZ := Lib.hid hz; clear hz
  obtain ⟨u0, u1, u2, u3, u4, u5⟩ := row_cells hr
  obtain ⟨v0, v1, v2, v3, v4, v5⟩ := row_frozen hr
  obtain ⟨o0, o1, o2, o3⟩ := op_cells ho
  have HR := Lib.hid hr; have HB := Lib.hid hB; have HO := Lib.hid ho; have HQ := Lib.hid hq
  clear hr hB ho hq
  rw [hk] at o1
  have h0 : o.k ≠ 0 := by omega
  go_upto_region 7 with fail
  generalize hW2 : World.setCell _ _ _ = W2
  obtain ⟨s2, hs2⟩ : ∃ s2, s2 = inS s k := ⟨_, rfl⟩
  have hr2 : Row W2 a1 31 6 (memV (.slice (some ⟨b, off, none⟩) s.n c) s2) := by rw [← hW2, hs2]; exact (((HR.out.set_ 1 _).set_ 3 _).set_ 4 _).congr fun i hi => touch_row _ s k i hi
  have hq2 : Row W2 (a1 + 1 + 1) 31 6 (memV (.slice none 0 0) (mem0 0 fun _ => 0)) := by rw [← hW2]; exact ((HQ.out.far (by simp; omega) _).far (by simp; omega) _).far (by simp; omega) _
  have ho2 : Row W2 (a1 + 1) 26 4 (opR o) := by rw [← hW2]; exact ((HO.out.far (by simp) _).far (by simp) _).far (by simp) _
  have hB2 : Below a1 w W2 := by rw [← hW2]; exact ((HB.out.setCell (Nat.le_refl _) _).setCell (Nat.le_refl _) _).setCell (Nat.le_refl _) _
  clear hW2 u0 u1 u2 u3 u4 u5 v0 v1 v2 v3 v4 v5 o0 o1 o2 o3
  obtain ⟨u0, u1, u2, u3, u4, u5⟩ := row_cells hr2
  obtain ⟨o0, o1, o2, o3⟩ := op_cells ho2
  rw [hk] at o1
  have uk : W2.cell? ⟨b, off + k, none⟩ = some (.int .u64 (s.f k : Nat)) := by rw [hB2.cell (p := ⟨b, off + k, none⟩) HA.out.1]; exact HA.out.2 k hkn
  have f6 := mem_fold (.slice (some ⟨b, off, none⟩) s.n c) s2
  have d1 : (o.k != 1) = false := by simp [h1]
  clear h1
  have HS2 := Lib.hid hs2; clear hs2
  go_upto_region 12 with fail
  clear u0 u1 u2 u3 u4 u5 uk f6 o0 o1 o2 o3
  have hz2 := hr2.lt
  have x0 : (W2.alloc (.cells #[] 24)).cell? ⟨a1, 0, none⟩ = some (.slice (some ⟨b, off, none⟩) s.n c) := (hr2.alloc _).cell (i := 0) (by omega)
  have hnews : ∀ j u, (rowOf s.n (us s.f)).toList[j]? = some u → (W2.alloc (.cells #[] 24)).cell? ((⟨b, off, none⟩ : Addr).add j) = some u := by
    intro j u hu
    have hj : j < s.n := by
      rcases Nat.lt_or_ge j s.n with hj | hj
      · exact hj
      · rw [List.getElem?_eq_none (by rw [Array.length_toList, rowOf_size]; exact hj)] at hu; cases hu
    rw [Array.getElem?_toList, rowOf_get _ hj] at hu
    rw [add_row, (hB2.alloc (by omega) _).cell (p := ⟨b, off + j, none⟩) HA.out.1, HA.out.2 j hj, hu]
  have hown := World.ownsRow_lit (base := W2.heap.size) (e := 24) (size := 1) W2 #[] 0 (Nat.le_refl _) (by decide) rfl
  have HX := Lib.hid (And.intro hnews hown)
  have hW2a : Hid (Below a1 w (W2.alloc (.cells #[] 24)) ∧ Row (W2.alloc (.cells #[] 24)) a1 31 6 (memV (.slice (some ⟨b, off, none⟩) s.n c) s2) ∧ Row (W2.alloc (.cells #[] 24)) (a1 + 1 + 1) 31 6 (memV (.slice none 0 0) (mem0 0 fun _ => 0)) ∧ Row (W2.alloc (.cells #[] 24)) (a1 + 1) 26 4 (opR o) ∧ a1 + 1 + 1 < W2.heap.size) :=
    Lib.hid ⟨hB2.alloc (by omega) _, hr2.alloc _, hq2.alloc _, ho2.alloc _, hq2.lt⟩
  clear hnews hown hr2 hq2 ho2 hB2
  obtain ⟨i0, hi0, hz0, hz1, hz3⟩ := infoI
  go_upto_region 13 with (at_builtin; refine wpList_append_lies _ rfl _ _ 22 rfl W2.heap.size 24 i0 (.int .u64 0) 1 8 Try.underlying22 hi0 hz0 hz1 hz3 rfl (by decide) (.slice (some ⟨W2.heap.size, 0, none⟩) 0 0) 0 [] rfl HX.out.2 ⟨b, off, none⟩ s.n c (rowOf s.n (us s.f)).toList rfl (by rw [Array.length_toList, rowOf_size, Nat.mul_one]) HX.out.1 (rowOf_mem fun _ => rfl) (by omega) (by unfold maxLen; omega) (by omega) (by simp) _ rfl ?_; intro g cap w3 hw3 hgr hgg hgl; rw [Nat.zero_add] at hw3 ⊢)
  obtain ⟨hP, hg⟩ := ownP_of hw3 (words_get s.n s.f)
  have hne1 : (Value.slice (some ⟨W2.heap.size, 0, none⟩) 0 0).ownBlock ≠ some a1 := by intro h; simp [Value.ownBlock] at h; omega
  have hne2 : (Value.slice (some ⟨W2.heap.size, 0, none⟩) 0 0).ownBlock ≠ some (a1 + 1) := by intro h; simp [Value.ownBlock] at h; have := hW2a.out.2.2.2.2; omega
  have hne3 : (Value.slice (some ⟨W2.heap.size, 0, none⟩) 0 0).ownBlock ≠ some (a1 + 1 + 1) := by intro h; simp [Value.ownBlock] at h; have := hW2a.out.2.2.2.2; omega
  have hr3 := hW2a.out.2.1.grown hgr hne1
  have hq3 := hW2a.out.2.2.1.grown hgr hne3
  have ho3 := hW2a.out.2.2.2.1.grown hgr hne2
  have hB3 := below_grown hW2a.out.1 hgr (by intro k h; simp [Value.ownBlock] at h; omega) (by simp; omega)
  have hg2 : a1 + 1 + 1 < g := by have := hW2a.out.2.2.2.2; omega
  clear hne1 hne2 hne3 hw3 hgr hgg hgl hg HX hW2a x0
  obtain ⟨u0, u1, u2, u3, u4, u5⟩ := row_cells hr3
  obtain ⟨v0, v1, v2, v3, v4, v5⟩ := row_frozen hr3
  obtain ⟨o0, o1, o2, o3⟩ := op_cells ho3
  rw [hk] at o1
  have p0 := hP.cell hkn
  unfold us at p0
  have p1 := hP.frozen k
  have n0 : g ≠ a1 := by omega
  have n1 : a1 ≠ g := by omega
  have n2 : g ≠ a1 + 1 := by omega
  have n3 : a1 + 1 ≠ g := by omega
  have n4 : g ≠ a1 + 1 + 1 := by omega
  have n5 : a1 ≤ a1 + 1 + 1 := by omega
  have c0 : 0 ≤ s2.wr := by rw [HS2.out]; exact b3
  have c1 : s2.wr < 4611686018427387904 := by rw [HS2.out]; show s.wr < _; omega
  go_upto_region 16 with fail
  generalize hW4 : World.setCell _ _ _ = W4
  obtain ⟨s4, hs4⟩ : ∃ s4, s4 = putS s2 k o.v := ⟨_, rfl⟩
  have hr4 : Row W4 a1 31 6 (memV (.slice (some ⟨g, 0, none⟩) s.n cap) s4) := by rw [← hW4, hs4]; exact (((hr3.far n1 _).set_ 0 _).set_ 2 _).congr fun i hi => put_row2 _ _ s2 k o.v i hi
  have hq4 : Row W4 (a1 + 1 + 1) 31 6 (memV (.slice none 0 0) (mem0 0 fun _ => 0)) := by rw [← hW4]; exact ((hq3.far (by simp; omega) _).far (by simp; omega) _).far (by simp; omega) _
  have ho4 : Row W4 (a1 + 1) 26 4 (opR o) := by rw [← hW4]; exact ((ho3.far n3 _).far (by simp) _).far (by simp) _
  have hP4 : OwnP W4 g s.n (us s4.f) := by rw [← hW4, hs4]; exact (((hP.set_ k _).far n0 _).far n0 _).congr fun i hi => by rw [HS2.out]; exact put_words s.f k o.v i
  have hB4 : Below a1 w W4 := by rw [← hW4]; exact ((hB3.setCell (by show a1 ≤ g; omega) _).setCell (Nat.le_refl _) _).setCell (Nat.le_refl _) _
  clear hW4 u0 u1 u2 u3 u4 u5 v0 v1 v2 v3 v4 v5 o0 o1 o2 o3 p0 p1 hr3 hq3 ho3 hB3 hP c0 c1
  obtain ⟨u0, u1, u2, u3, u4, u5⟩ := row_cells hr4
  obtain ⟨o0, o1, o2, o3⟩ := op_cells ho4
  obtain ⟨q0, q1, q2, q3, q4, q5⟩ := row_cells hq4
  obtain ⟨v0, v1, v2, v3, v4, v5⟩ := row_frozen hq4
  have HF : Hid (∀ w', Only (fun i => i = a1 + 1 + 1) W4 w' → DoPost w (some ⟨b, off, none⟩) (putS (inS s k) k o.v) 0 false (.returned (.tuple #[.agg (rowOf 6 (memV (.slice (some ⟨g, 0, none⟩) s.n cap) s4)), .int .u64 (0 : Nat), .bool false])) w') := Lib.hid fun w' ho => by
    rw [hs4, HS2.out] at hP4 ⊢
    refine ⟨some ⟨g, 0, none⟩, cap, rfl, (hP4.only ho n4).row, ?_, fun a h => .inr (by cases h; rw [HZ.out]; show a1 ≤ g; omega)⟩
    rw [HZ.out]
    exact hB4.trans ⟨ho.1.os, ho.1.tape, ho.1.output, ho.size, fun i hi => ho.2 i (by have := hr4.lt; omega) (fun e => by have e' : i = a1 + 1 + 1 := e; omega)⟩
  have HQ4 := Lib.hid hq4
  clear hr4 ho4 hP4 hB4 hs4 hq4 HS2 HZ HQ HO HB HR HA
  go_region
  clear u0 u1 u2 u3 u4 u5 v0 v1 v2 v3 v4 v5 q0 q1 q2 q3 q4 q5 o0 o1 o2 o3
  go_wp2_with fail

  have hrow := Row.drew (six_row (.slice (some ⟨g, 0, none⟩) s.n cap) s4 HQ4.out)
  exact bodyPost_ret (results_row_tmp2 (p := 4) (u := 5) (v := 6) (ty := 31) (by kernel_rfl) _ _ (a1 + 1 + 1) 31 (rowOf 6 (memV (.slice (some ⟨g, 0, none⟩) s.n cap) s4)) (0, 0) _ rfl hrow Try.underlying31 rfl (by kernel_rfl)) rfl
    (HF.out _ (six_only _ s4 W4 (a1 + 1 + 1)))
set_option maxHeartbeats 4000000 in
theorem cDo_cas (k : Nat) (hk : o.a = k) (hkn : k < s.n) (h0 : o.k ≠ 0) (h1 : o.k ≠ 1) (h2 : s.f k = o.old) : Calls Try.prog 10 #[.agg (rowOf 6 (memV (.slice A s.n c) s)), .agg (rowOf 4 (opR o))] w (DoPost w A (putS (inS s k) k o.v) 0 true) := by
  have b0 := hs.acc0
  have b1 := hs.acc1
  have b2 := hs.top
  have b3 := hs.wr0
  have b4 := hs.wr1
  obtain ⟨b, off, rfl, hb⟩ := hA (by omega)
  have HA := Lib.hid hb
  clear hs hA hb
  go_enter Try.func10, Try.ntmps10
  go_upto_region 1 with fail
  generalize hW : World.alloc _ _ = W
  obtain ⟨hB, hr, ho, hq⟩ := three_blocks w 31 26 31 6 4 6 (memV (.slice _ s.n c) s) (opR o) (memV (.slice none 0 0) (mem0 0 fun _ => 0)) W hW
  clear hW
  generalize hz : w.heap.size = a1 at *
  have HZ := Lib.hid hz; clear hz
  obtain ⟨u0, u1, u2, u3, u4, u5⟩ := row_cells hr
  obtain ⟨v0, v1, v2, v3, v4, v5⟩ := row_frozen hr
  obtain ⟨o0, o1, o2, o3⟩ := op_cells ho
  have HR := Lib.hid hr; have HB := Lib.hid hB; have HO := Lib.hid ho; have HQ := Lib.hid hq
  clear hr hB ho hq
  rw [hk] at o1
  go_upto_region 7 with fail
  generalize hW2 : World.setCell _ _ _ = W2
  obtain ⟨s2, hs2⟩ : ∃ s2, s2 = inS s k := ⟨_, rfl⟩
  have hr2 : Row W2 a1 31 6 (memV (.slice (some ⟨b, off, none⟩) s.n c) s2) := by rw [← hW2, hs2]; exact (((HR.out.set_ 1 _).set_ 3 _).set_ 4 _).congr fun i hi => touch_row _ s k i hi
  have hq2 : Row W2 (a1 + 1 + 1) 31 6 (memV (.slice none 0 0) (mem0 0 fun _ => 0)) := by rw [← hW2]; exact ((HQ.out.far (by simp; omega) _).far (by simp; omega) _).far (by simp; omega) _
  have ho2 : Row W2 (a1 + 1) 26 4 (opR o) := by rw [← hW2]; exact ((HO.out.far (by simp) _).far (by simp) _).far (by simp) _
  have hB2 : Below a1 w W2 := by rw [← hW2]; exact ((HB.out.setCell (Nat.le_refl _) _).setCell (Nat.le_refl _) _).setCell (Nat.le_refl _) _
  clear hW2 u0 u1 u2 u3 u4 u5 v0 v1 v2 v3 v4 v5 o0 o1 o2 o3
  obtain ⟨u0, u1, u2, u3, u4, u5⟩ := row_cells hr2
  obtain ⟨o0, o1, o2, o3⟩ := op_cells ho2
  rw [hk] at o1
  have uk : W2.cell? ⟨b, off + k, none⟩ = some (.int .u64 (s.f k : Nat)) := by rw [hB2.cell (p := ⟨b, off + k, none⟩) HA.out.1]; exact HA.out.2 k hkn
  have f6 := mem_fold (.slice (some ⟨b, off, none⟩) s.n c) s2
  have d1 : (o.k != 1) = true := by simp [h1]
  have d2 : ((s.f k : Int) != (o.old : Int)) = false := by simp [h2]
  have HS2 := Lib.hid hs2; clear hs2
  go_upto_region 12 with fail
  clear u0 u1 u2 u3 u4 u5 uk f6 o0 o1 o2 o3
  have hz2 := hr2.lt
  have x0 : (W2.alloc (.cells #[] 24)).cell? ⟨a1, 0, none⟩ = some (.slice (some ⟨b, off, none⟩) s.n c) := (hr2.alloc _).cell (i := 0) (by omega)
  have hnews : ∀ j u, (rowOf s.n (us s.f)).toList[j]? = some u → (W2.alloc (.cells #[] 24)).cell? ((⟨b, off, none⟩ : Addr).add j) = some u := by
    intro j u hu
    have hj : j < s.n := by
      rcases Nat.lt_or_ge j s.n with hj | hj
      · exact hj
      · rw [List.getElem?_eq_none (by rw [Array.length_toList, rowOf_size]; exact hj)] at hu; cases hu
    rw [Array.getElem?_toList, rowOf_get _ hj] at hu
    rw [add_row, (hB2.alloc (by omega) _).cell (p := ⟨b, off + j, none⟩) HA.out.1, HA.out.2 j hj, hu]
  have hown := World.ownsRow_lit (base := W2.heap.size) (e := 24) (size := 1) W2 #[] 0 (Nat.le_refl _) (by decide) rfl
  have HX := Lib.hid (And.intro hnews hown)
  have hW2a : Hid (Below a1 w (W2.alloc (.cells #[] 24)) ∧ Row (W2.alloc (.cells #[] 24)) a1 31 6 (memV (.slice (some ⟨b, off, none⟩) s.n c) s2) ∧ Row (W2.alloc (.cells #[] 24)) (a1 + 1 + 1) 31 6 (memV (.slice none 0 0) (mem0 0 fun _ => 0)) ∧ Row (W2.alloc (.cells #[] 24)) (a1 + 1) 26 4 (opR o) ∧ a1 + 1 + 1 < W2.heap.size) :=
    Lib.hid ⟨hB2.alloc (by omega) _, hr2.alloc _, hq2.alloc _, ho2.alloc _, hq2.lt⟩
  clear hnews hown hr2 hq2 ho2 hB2
  obtain ⟨i0, hi0, hz0, hz1, hz3⟩ := infoI
  go_upto_region 13 with (at_builtin; refine wpList_append_lies _ rfl _ _ 22 rfl W2.heap.size 24 i0 (.int .u64 0) 1 8 Try.underlying22 hi0 hz0 hz1 hz3 rfl (by decide) (.slice (some ⟨W2.heap.size, 0, none⟩) 0 0) 0 [] rfl HX.out.2 ⟨b, off, none⟩ s.n c (rowOf s.n (us s.f)).toList rfl (by rw [Array.length_toList, rowOf_size, Nat.mul_one]) HX.out.1 (rowOf_mem fun _ => rfl) (by omega) (by unfold maxLen; omega) (by omega) (by simp) _ rfl ?_; intro g cap w3 hw3 hgr hgg hgl; rw [Nat.zero_add] at hw3 ⊢)
  obtain ⟨hP, hg⟩ := ownP_of hw3 (words_get s.n s.f)
  have hne1 : (Value.slice (some ⟨W2.heap.size, 0, none⟩) 0 0).ownBlock ≠ some a1 := by intro h; simp [Value.ownBlock] at h; omega
  have hne2 : (Value.slice (some ⟨W2.heap.size, 0, none⟩) 0 0).ownBlock ≠ some (a1 + 1) := by intro h; simp [Value.ownBlock] at h; have := hW2a.out.2.2.2.2; omega
  have hne3 : (Value.slice (some ⟨W2.heap.size, 0, none⟩) 0 0).ownBlock ≠ some (a1 + 1 + 1) := by intro h; simp [Value.ownBlock] at h; have := hW2a.out.2.2.2.2; omega
  have hr3 := hW2a.out.2.1.grown hgr hne1
  have hq3 := hW2a.out.2.2.1.grown hgr hne3
  have ho3 := hW2a.out.2.2.2.1.grown hgr hne2
  have hB3 := below_grown hW2a.out.1 hgr (by intro k h; simp [Value.ownBlock] at h; omega) (by simp; omega)
  have hg2 : a1 + 1 + 1 < g := by have := hW2a.out.2.2.2.2; omega
  clear hne1 hne2 hne3 hw3 hgr hgg hgl hg HX hW2a x0
  obtain ⟨u0, u1, u2, u3, u4, u5⟩ := row_cells hr3
  obtain ⟨v0, v1, v2, v3, v4, v5⟩ := row_frozen hr3
  obtain ⟨o0, o1, o2, o3⟩ := op_cells ho3
  rw [hk] at o1
  have p0 := hP.cell hkn
  unfold us at p0
  have p1 := hP.frozen k
  have n0 : g ≠ a1 := by omega
  have n1 : a1 ≠ g := by omega
  have n2 : g ≠ a1 + 1 := by omega
  have n3 : a1 + 1 ≠ g := by omega
  have n4 : g ≠ a1 + 1 + 1 := by omega
  have n5 : a1 ≤ a1 + 1 + 1 := by omega
  have c0 : 0 ≤ s2.wr := by rw [HS2.out]; exact b3
  have c1 : s2.wr < 4611686018427387904 := by rw [HS2.out]; show s.wr < _; omega
  go_upto_region 16 with fail
  generalize hW4 : World.setCell _ _ _ = W4
  obtain ⟨s4, hs4⟩ : ∃ s4, s4 = putS s2 k o.v := ⟨_, rfl⟩
  have hr4 : Row W4 a1 31 6 (memV (.slice (some ⟨g, 0, none⟩) s.n cap) s4) := by rw [← hW4, hs4]; exact (((hr3.far n1 _).set_ 0 _).set_ 2 _).congr fun i hi => put_row2 _ _ s2 k o.v i hi
  have hq4 : Row W4 (a1 + 1 + 1) 31 6 (memV (.slice none 0 0) (mem0 0 fun _ => 0)) := by rw [← hW4]; exact ((hq3.far (by simp; omega) _).far (by simp; omega) _).far (by simp; omega) _
  have ho4 : Row W4 (a1 + 1) 26 4 (opR o) := by rw [← hW4]; exact ((ho3.far n3 _).far (by simp) _).far (by simp) _
  have hP4 : OwnP W4 g s.n (us s4.f) := by rw [← hW4, hs4]; exact (((hP.set_ k _).far n0 _).far n0 _).congr fun i hi => by rw [HS2.out]; exact put_words s.f k o.v i
  have hB4 : Below a1 w W4 := by rw [← hW4]; exact ((hB3.setCell (by show a1 ≤ g; omega) _).setCell (Nat.le_refl _) _).setCell (Nat.le_refl _) _
  clear hW4 u0 u1 u2 u3 u4 u5 v0 v1 v2 v3 v4 v5 o0 o1 o2 o3 p0 p1 hr3 hq3 ho3 hB3 hP c0 c1
  obtain ⟨u0, u1, u2, u3, u4, u5⟩ := row_cells hr4
  obtain ⟨o0, o1, o2, o3⟩ := op_cells ho4
  obtain ⟨q0, q1, q2, q3, q4, q5⟩ := row_cells hq4
  obtain ⟨v0, v1, v2, v3, v4, v5⟩ := row_frozen hq4
  have HF : Hid (∀ w', Only (fun i => i = a1 + 1 + 1) W4 w' → DoPost w (some ⟨b, off, none⟩) (putS (inS s k) k o.v) 0 true (.returned (.tuple #[.agg (rowOf 6 (memV (.slice (some ⟨g, 0, none⟩) s.n cap) s4)), .int .u64 (0 : Nat), .bool true])) w') := Lib.hid fun w' ho => by
    rw [hs4, HS2.out] at hP4 ⊢
    refine ⟨some ⟨g, 0, none⟩, cap, rfl, (hP4.only ho n4).row, ?_, fun a h => .inr (by cases h; rw [HZ.out]; show a1 ≤ g; omega)⟩
    rw [HZ.out]
    exact hB4.trans ⟨ho.1.os, ho.1.tape, ho.1.output, ho.size, fun i hi => ho.2 i (by have := hr4.lt; omega) (fun e => by have e' : i = a1 + 1 + 1 := e; omega)⟩
  have HQ4 := Lib.hid hq4
  clear hr4 ho4 hP4 hB4 hs4 hq4 HS2 HZ HQ HO HB HR HA
  go_region
  clear u0 u1 u2 u3 u4 u5 v0 v1 v2 v3 v4 v5 q0 q1 q2 q3 q4 q5 o0 o1 o2 o3
  go_wp2_with fail

  have hrow := Row.drew (six_row (.slice (some ⟨g, 0, none⟩) s.n cap) s4 HQ4.out)
  exact bodyPost_ret (results_row_tmp2 (p := 4) (u := 5) (v := 6) (ty := 31) (by kernel_rfl) _ _ (a1 + 1 + 1) 31 (rowOf 6 (memV (.slice (some ⟨g, 0, none⟩) s.n cap) s4)) (0, 0) _ rfl hrow Try.underlying31 rfl (by kernel_rfl)) rfl
    (HF.out _ (six_only _ s4 W4 (a1 + 1 + 1)))

/-- The document's memory behind any access. -/
theorem cDo_any : Calls Try.prog 10 #[.agg (rowOf 6 (memV (.slice A s.n c) s)), .agg (rowOf 4 (opR o))] w (DoPost w A (doM s o) (doV s o) (doB s o)) := by
  cases hi : inB s o.a
  · have h := cDo_out A c s hs o w hA hi
    have e1 : touch s o.a = outS s := by unfold touch; rw [hi]; rfl
    have e2 : storeM s o.a o.v = outS s := by unfold storeM; rw [hi]; rfl
    have e3 : casB s o.a o.old = false := by unfold casB; rw [hi]; rfl
    have e4 : casM s o.a o.old o.v = outS s := by unfold casM; rw [e3, e1]; rfl
    have e5 : loadV s o.a = 0 := by unfold loadV; rw [hi]; rfl
    have d1 : doM s o = outS s := by unfold doM; rw [e1, e2, e4]; cases decide (o.k = 0) <;> cases decide (o.k = 1) <;> rfl
    have d2 : doV s o = 0 := by unfold doV; rw [e5]; cases decide (o.k = 0) <;> rfl
    have d3 : doB s o = false := by unfold doB; rw [e3]; cases decide (o.k = 0) <;> cases decide (o.k = 1) <;> rfl
    rw [d1, d2, d3]
    exact h
  · have hi2 := inB_iff.1 hi
    obtain ⟨k, hk⟩ : ∃ k : Nat, o.a = k := ⟨o.a.toNat, by omega⟩
    have hkn : k < s.n := by omega
    have hto : o.a.toNat = k := by omega
    have e1 : touch s o.a = inS s k := by unfold touch; rw [hi, hk]; rfl
    by_cases h0 : o.k = 0
    · have d1 : doM s o = inS s k := by unfold doM; rw [decide_eq_true h0, e1]; rfl
      have d2 : doV s o = s.f k := by unfold doV loadV; rw [decide_eq_true h0, hi, hto]; rfl
      have d3 : doB s o = false := by unfold doB; rw [decide_eq_true h0]; rfl
      rw [d1, d2, d3]
      exact cDo_load A c s hs o w hA k hk hkn h0
    by_cases h1 : o.k = 1
    · have d1 : doM s o = putS (inS s k) k o.v := by unfold doM storeM; rw [decide_eq_false h0, decide_eq_true h1, hi, hk]; rfl
      have d2 : doV s o = 0 := by unfold doV; rw [decide_eq_false h0]; rfl
      have d3 : doB s o = false := by unfold doB; rw [decide_eq_false h0, decide_eq_true h1]; rfl
      rw [d1, d2, d3]
      exact cDo_store A c s hs o w hA k hk hkn h1
    have d2 : doV s o = 0 := by unfold doV; rw [decide_eq_false h0]; rfl
    by_cases h2 : s.f k = o.old
    · have e3 : casB s o.a o.old = true := by unfold casB; rw [hi, hto, decide_eq_true h2]; rfl
      have d1 : doM s o = putS (inS s k) k o.v := by unfold doM casM; rw [decide_eq_false h0, decide_eq_false h1, e3, hk]; rfl
      have d3 : doB s o = true := by unfold doB; rw [decide_eq_false h0, decide_eq_false h1, e3]; rfl
      rw [d1, d2, d3]
      exact cDo_cas A c s hs o w hA k hk hkn h0 h1 h2
    · have e3 : casB s o.a o.old = false := by unfold casB; rw [hi, hto, decide_eq_false h2]; rfl
      have d1 : doM s o = inS s k := by unfold doM casM; rw [decide_eq_false h0, decide_eq_false h1, e3, e1]; rfl
      have d3 : doB s o = false := by unfold doB; rw [decide_eq_false h0, decide_eq_false h1, e3]; rfl
      rw [d1, d2, d3]
      exact cDo_ne A c s hs o w hA k hk hkn h0 h1 h2
end
end Go.Proofs.Ytdgafadbajcllaa
