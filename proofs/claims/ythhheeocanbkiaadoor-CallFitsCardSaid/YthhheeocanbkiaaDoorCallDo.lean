/- Whether a call may be answered so: package call's answer. -/
import Derived.Test.YthhheeocanbkiaaDoorCallTells
namespace Go.Proofs.YthhheeocanbkiaaDoor
open Go.ChangeShapes Go.WideShapes Go.ChangeAt Go.RowKit

/-- A call, an answer in a block. -/
structure CallIs (w : World) (g : Nat) (op l key pa pb hd r : Int) : Prop where
  lt : g < w.heap.size
  c0 : w.cell? ⟨g, 0, none⟩ = some (.int .i64 op)
  c1 : w.cell? ⟨g, 1, none⟩ = some (.int .i64 l)
  c2 : w.cell? ⟨g, 2, none⟩ = some (.int .i64 key)
  c3 : w.cell? ⟨g, 3, none⟩ = some (.int .u64 pa)
  c4 : w.cell? ⟨g, 4, none⟩ = some (.int .u64 pb)
  c5 : w.cell? ⟨g, 5, none⟩ = some (.int .u64 hd)
  c6 : w.cell? ⟨g, 6, none⟩ = some (.int .i64 r)
structure AnsIs (w : World) (g : Nat) (x : Ans) : Prop where
  lt : g < w.heap.size
  c0 : w.cell? ⟨g, 0, none⟩ = some (.int .i64 x.e)
  c1 : w.cell? ⟨g, 1, none⟩ = some (.int .u64 x.a)
  c2 : w.cell? ⟨g, 2, none⟩ = some (.int .u64 x.b)
  c3 : w.cell? ⟨g, 3, none⟩ = some (.int .u64 x.h)
  c4 : w.cell? ⟨g, 4, none⟩ = some (.int .i64 x.n)
  c5 : w.cell? ⟨g, 5, none⟩ = some (.int .i64 x.k)
theorem CallIs.keep {w w' : World} {g : Nat} {op l key pa pb hd r : Int} (h : CallIs w g op l key pa pb hd r) (hb : Below w.heap.size w w') : CallIs w' g op l key pa pb hd r :=
  have c := fun i => hb.cell (p := ⟨g, i, none⟩) h.lt
  ⟨Nat.lt_of_lt_of_le h.lt hb.size, (c 0).trans h.c0, (c 1).trans h.c1, (c 2).trans h.c2, (c 3).trans h.c3, (c 4).trans h.c4, (c 5).trans h.c5, (c 6).trans h.c6⟩
theorem AnsIs.keep {w w' : World} {g : Nat} {x : Ans} (h : AnsIs w g x) (hb : Below w.heap.size w w') : AnsIs w' g x :=
  have c := fun i => hb.cell (p := ⟨g, i, none⟩) h.lt
  ⟨Nat.lt_of_lt_of_le h.lt hb.size, (c 0).trans h.c0, (c 1).trans h.c1, (c 2).trans h.c2, (c 3).trans h.c3, (c 4).trans h.c4, (c 5).trans h.c5⟩
def callC (op l key pa pb hd r : Int) : Array Value := #[.int .i64 op, .int .i64 l, .int .i64 key, .int .u64 pa, .int .u64 pb, .int .u64 hd, .int .i64 r]
theorem callIs_new (op l key pa pb hd r : Int) (t : TypeId) (w : World) : CallIs (w.alloc (.cells (callC op l key pa pb hd r) t)) w.heap.size op l key pa pb hd r := by
  constructor <;> simp [callC]
theorem ansIs_new (x : Ans) (t : TypeId) (w : World) : AnsIs (w.alloc (.cells x.cells t)) w.heap.size x := by
  constructor <;> simp [Ans.cells]
theorem two_new (op l key pa pb hd r : Int) (x : Ans) (t u : TypeId) (w : World) : ∀ W, (w.alloc (.cells (callC op l key pa pb hd r) t)).alloc (.cells x.cells u) = W → Below w.heap.size w W ∧ CallIs W w.heap.size op l key pa pb hd r ∧ AnsIs W (w.heap.size + 1) x := by
  rintro W rfl
  refine ⟨((Below.refl _ _).alloc (Nat.le_refl _) _).alloc (by simp) _, (callIs_new op l key pa pb hd r t w).keep ((Below.refl _ _).alloc (Nat.le_refl _) _), ?_⟩
  have h := ansIs_new x u (w.alloc (.cells (callC op l key pa pb hd r) t))
  simpa using h
set_option maxHeartbeats 1000000 in
theorem kFits_any (op l key pa pb hd r e a b h n k : Int) (w : World) : Calls Tryd.prog 15 #[(.agg #[.int .i64 op, .int .i64 l, .int .i64 key, .int .u64 pa, .int .u64 pb, .int .u64 hd, .int .i64 r]), (.agg #[.int .i64 e, .int .u64 a, .int .u64 b, .int .u64 h, .int .i64 n, .int .i64 k])] w fun t w' => t = .returned (.bool (fitsC op l r ⟨e, a, b, h, n, k⟩)) ∧ Below w.heap.size w w' := by
  have C1 := Lib.hid (fun W => kMay_any op l key pa pb hd r W)
  have C2 : Hid (mayC op l r = true → ∀ W, Calls Tryd.prog 23 #[.int .i64 op, .agg #[.int .i64 0, .int .u64 a, .int .u64 b, .int .u64 h, .int .i64 n, .int .i64 k]] W fun t w' => t = .returned (.bool (toldT op a b h n k)) ∧ Below W.heap.size W w') :=
    Lib.hid (fun hm W => tells_any op a b h n k (mayC_ops hm).1 (mayC_ops hm).2 W)
  have C3 : Hid (mayC op l r = true → ∀ W, Calls Tryd.prog 24 #[.int .i64 op, .int .i64 e] W fun t w' => t = .returned (.bool (badT op e)) ∧ W = w') :=
    Lib.hid (fun hm W => fails_any op e (mayC_ops hm).1 (mayC_ops hm).2 W)
  have C4 := Lib.hid (fun W => kSame_cells e a b h n k e 0 0 0 0 0 W)
  have H := Lib.hid (show fitsC op l r ⟨e, a, b, h, n, k⟩ = bif mayC op l r then (bif e == 0 then toldT op a b h n k else badT op e && sameA ⟨e, a, b, h, n, k⟩ ⟨e, 0, 0, 0, 0, 0⟩) else false from rfl)
  generalize fitsC op l r ⟨e, a, b, h, n, k⟩ = F at *
  generalize mayC op l r = M at *
  go_enter Tryd.func15, Tryd.ntmps15
  go_upto_region 1 with fail
  generalize hW : World.alloc (World.alloc _ _) _ = W
  obtain ⟨hB, hcl, han⟩ := two_new op l key pa pb hd r ⟨e, a, b, h, n, k⟩ _ _ w W hW
  clear hW
  generalize hz : w.heap.size = a1 at *
  have HZ := Lib.hid hz; clear hz
  have HB := Lib.hid hB; have HC := Lib.hid hcl; have HA := Lib.hid han; clear hB
  obtain ⟨-, u0, u1, u2, u3, u4, u5, u6⟩ := hcl
  obtain ⟨-, v0, v1, v2, v3, v4, v5⟩ := han
  simp only at v0 v1 v2 v3 v4 v5
  go_wp2_with fail
  refine (C1.out _).mono ?_
  rintro t w1 ⟨rfl, hb1⟩
  have hB1 := below_on HB.out (Nat.le_of_eq HZ.out.symm) hb1
  have hcl := HC.out.keep hb1
  have han := HA.out.keep hb1
  clear hb1 HB HC HA u0 u1 u2 u3 u4 u5 u6 v0 v1 v2 v3 v4 v5 C1 W
  have HB := Lib.hid hB1; clear hB1
  obtain ⟨-, u0, u1, u2, u3, u4, u5, u6⟩ := hcl
  obtain ⟨-, v0, v1, v2, v3, v4, v5⟩ := han
  simp only at v0 v1 v2 v3 v4 v5
  cases M
  · go_wp2_with fail
    go_ret
    exact ⟨by rw [H.out]; rfl, by rw [HZ.out]; exact HB.out⟩
  have D2 := Lib.hid (C2.out rfl)
  have D3 := Lib.hid (C3.out rfl)
  clear C2 C3
  by_cases h0 : e = 0
  · subst h0
    go_wp2_with (with_reducible refine (D2.out _).mono ?_; rintro t w2 ⟨rfl, hb2⟩)
    go_ret
    exact ⟨by rw [H.out]; rfl, by rw [HZ.out]; exact below_on HB.out (Nat.le_of_eq HZ.out.symm) hb2⟩
  · have hq : (e == 0) = false := by simp [h0]
    rw [hq] at H
    cases hbad : badT op e
    · rw [hbad] at H D3
      clear hbad
      go_wp2_with (with_reducible refine (D3.out _).mono ?_; rintro t w2 ⟨rfl, rfl⟩)
      go_ret
      exact ⟨by rw [H.out]; rfl, by rw [HZ.out]; exact HB.out⟩
    · rw [hbad] at H D3
      clear hbad
      go_wp2_with (first | (with_reducible refine (D3.out _).mono ?_; rintro t w2 ⟨rfl, rfl⟩) | (with_reducible refine (C4.out _).mono ?_; rintro t w2 ⟨rfl, hb2⟩))
      go_ret
      exact ⟨by rw [H.out]; rfl, by rw [HZ.out]; exact below_on HB.out (Nat.le_of_eq HZ.out.symm) hb2⟩
end Go.Proofs.YthhheeocanbkiaaDoor
