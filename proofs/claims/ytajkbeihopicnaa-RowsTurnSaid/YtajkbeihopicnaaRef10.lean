/- burnbagref10.Put, burnbagref10.Drop. -/
import Derived.Test.YtajkbeihopicnaaRowPut
namespace Go.Proofs.Ytajkbeihopicnaa
open Go.ChangeShapes Go.WideShapes Go.ChangeAt Go.RowKit Go.Shelf

theorem lies_pre {w : World} {a : Addr} {L : List Rw} (h : Lies w (some a) L) (n : Nat) : ∀ j u, (flat (L.take n))[j]? = some u → w.cell? (a.add j) = some u := fun j u hj => by
  rw [flat_take, List.getElem?_take] at hj
  split at hj
  · exact lies_news h j u hj
  · cases hj
theorem lies_suf {w : World} {a : Addr} {L : List Rw} (h : Lies w (some a) L) (n : Nat) : ∀ j u, (flat (L.drop n))[j]? = some u → w.cell? ((a.add (n * 3)).add j) = some u := fun j u hj => by
  rcases h with rfl | ⟨b, off, e, _, hc⟩
  · simp [flat] at hj
  · cases e
    rw [add_row, add_row, Nat.add_assoc]
    rw [flat_drop, List.getElem?_drop] at hj
    exact hc _ u hj
theorem lies_suf0 {w : World} {a : Addr} {L : List Rw} {n : Nat} (hn : L.length ≤ n) : ∀ j u, (flat (L.drop n))[j]? = some u → w.cell? (a.add j) = some u := fun j u hj => by
  rw [List.drop_eq_nil_of_le hn] at hj
  simp [flat] at hj
theorem len_take {L : List Rw} {n : Nat} (h : n ≤ L.length) : (flat (L.take n)).length = n * 3 := by rw [flat_length, List.length_take]; congr 1; omega
theorem len_drop {L : List Rw} {m n : Nat} (hm : L.length = m) : (flat (L.drop n)).length = (m - n) * 3 := by rw [flat_length, List.length_drop, hm]

/-- An append onto a row that was made just now leaves all that was there ahead of it. -/
theorem below_new {w w' : World} {o : Obj} {row : Option Nat} (hg : (w.alloc o).grownBy w' row) (hr : row = some w.heap.size) : Below w.heap.size w w' :=
  below_grown ((Below.refl _ w).alloc (Nat.le_refl _) o) hg (by intro k hk; rw [hr] at hk; cases hk; exact Nat.le_refl _) (by simp)

set_option maxHeartbeats 2000000 in
theorem rPutRef_no (a : Addr) (c : Nat) (L : List Rw) (hL : L.length ≤ 1000 * 1000 - 1) (hc : L.length ≤ c) (x : Rw) (w : World) (hl : Lies w (some a) L) (hno : isAt L x.k = true) :
    Calls Try.prog 8 #[.slice (some a) L.length c, .agg #[.int .i64 x.k, .int .u64 (x.a : Nat), .int .u64 (x.b : Nat)]] w fun e w' => ∃ v, e = .returned (.tuple #[v, .bool false]) ∧ Told w' v L ∧ Below w.heap.size w w' := by
  have hb3 : Box3 (w.alloc (.cells #[.int .i64 x.k, .int .u64 (x.a : Nat), .int .u64 (x.b : Nat)] 27)) w.heap.size x := Box3.new w x
  have hb1 : Below w.heap.size w (w.alloc (.cells #[.int .i64 x.k, .int .u64 (x.a : Nat), .int .u64 (x.b : Nat)] 27)) := (Below.refl _ w).alloc (Nat.le_refl _) _
  have q0 := hb3.cell0
  have c2 := rAtRef_any (some a) c L (by omega) x.k _ (hl.keep hb1)
  rw [hno] at c2
  have H := Lib.hid (And.intro hb1 (hl.keep hb1)); clear hb1 hl hb3
  have C2 := Lib.hid c2; clear c2
  generalize hm : L.length = m at *
  have HM := Lib.hid hm; clear hm
  generalize findN L x.k = fn at *
  go_enter Try.func8, Try.ntmps8
  go_wp2_with (go_at_call 12; refine C2.out.mono ?_; rintro e w2 ⟨rfl, hd⟩; have HD := Lib.hid hd; clear hd)
  go_ret2
  exact ⟨.slice (some a) m c, rfl, ⟨some a, c, by rw [HM.out], H.out.2.keep (HD.out.below _)⟩, H.out.1.trans (HD.out.below _)⟩

set_option maxHeartbeats 2000000 in
theorem rPutRef_yes (a : Addr) (c : Nat) (L : List Rw) (hL : L.length ≤ 1000 * 1000 - 1) (hc : L.length ≤ c) (hcm : c ≤ maxLen) (x : Rw) (w : World) (hl : Lies w (some a) L) (hno : isAt L x.k = false) :
    Calls Try.prog 8 #[.slice (some a) L.length c, .agg #[.int .i64 x.k, .int .u64 (x.a : Nat), .int .u64 (x.b : Nat)]] w fun e w' => ∃ v, e = .returned (.tuple #[v, .bool true]) ∧ Told w' v (L.take (findN L x.k) ++ x :: L.drop (findN L x.k)) ∧ Below w.heap.size w w' := by
  obtain ⟨i0, hi0, hz0, hz1, hz3⟩ := infoR
  have hcm' : c ≤ 9223372036854775807 := by unfold maxLen at hcm; omega
  have hb3 : Box3 (w.alloc (.cells #[.int .i64 x.k, .int .u64 (x.a : Nat), .int .u64 (x.b : Nat)] 27)) w.heap.size x := Box3.new w x
  have hb1 : Below w.heap.size w (w.alloc (.cells #[.int .i64 x.k, .int .u64 (x.a : Nat), .int .u64 (x.b : Nat)] 27)) := (Below.refl _ w).alloc (Nat.le_refl _) _
  have q0 := hb3.cell0
  have c2 := rAtRef_any (some a) c L (by omega) x.k _ (hl.keep hb1)
  rw [hno] at c2
  have hf := findN_le L x.k
  have H := Lib.hid (And.intro hb1 (And.intro hl hb3)); clear hb1 hl hb3
  have C2 := Lib.hid c2; clear c2
  have hlt := fun n (h : n ≤ L.length) => len_take (L := L) h
  generalize hfn : findN L x.k = fn at *
  generalize hm : L.length = m at *
  have HM := Lib.hid (And.intro hm (And.intro (hlt fn hf) hfn)); clear hm hlt hfn
  go_enter Try.func8, Try.ntmps8
  go_upto_region 5 with (first
    | (go_at_call 12; refine C2.out.mono ?_; rintro e w2 ⟨rfl, hd⟩
       have hlw := H.out.2.1.keep (H.out.1.trans (hd.below _))
       have h3 : Box3 w2 w.heap.size x := ((hd.below (w.heap.size + 1)).block w.heap.size (by omega)).trans H.out.2.2
       have k0 := h3.cell0
       have HD := Lib.hid (And.intro (H.out.1.trans (hd.below _)) (And.intro hlw h3)); clear hd hlw h3)
    | (at_builtin; refine wpList_append_own _ rfl _ _ 22 rfl (w.heap.size + 1) 27 i0 (.agg #[.int .i64 0, .int .u64 0, .int .u64 0]) 3 24 Try.underlying22 hi0 hz0 hz1 hz3 rfl (by decide) _ 0 [] rfl (World.ownsRow_lit _ #[] 0 (by have := HD.out.2.2.lt; omega) (by decide) rfl) a fn c (flat (L.take fn)) rfl HM.out.2.1 (lies_pre (HD.out.2.1.alloc _) fn) (flat_one _) (by unfold maxLen; omega) (by omega) (by have := HD.out.2.2.lt; simp; omega) ?_; intro v1 w3 hown hgrow hnil
       rw [Nat.zero_add, List.nil_append] at hown
       have hb4 : Below w2.heap.size w2 w3 := below_new hgrow rfl
       have h4 : Box3 w3 w.heap.size x := (hb4.block w.heap.size HD.out.2.2.lt).trans HD.out.2.2
       have hl4 : Lies w3 (some a) L := HD.out.2.1.keep hb4
       have k1 := h4.cell0
       have k2 := h4.cell1
       have k3 := h4.cell2
       have HD4 := Lib.hid (And.intro (HD.out.1.trans (hb4.mono HD.out.1.size)) (And.intro hl4 (And.intro h4 hown))); clear hb4 h4 hl4 hown hgrow hnil))
  go_upto_region 6 with (at_builtin
                         refine wpList_append_own _ rfl _ _ 22 rfl (w.heap.size + 1) 27 i0 (.agg #[.int .i64 0, .int .u64 0, .int .u64 0]) 3 24 Try.underlying22 hi0 hz0 hz1 hz3 rfl (by decide) v1 fn (flat (L.take fn)) rfl (own_at (HD4.out.2.2.2) ((Below.refl _ _).alloc (Nat.le_refl _) _)) ⟨w3.heap.size, 0, none⟩ 1 1 (flat [x]) rfl (flat1 x) (OneRow.cell ⟨_, heap_alloc_new w3 _⟩) (flat_one _) (by unfold maxLen; omega) (by omega) (by have := HD4.out.2.2.1.lt; simp; omega) ?_
                         intro v2 w4 hown hgrow hnil
                         have hb5 : Below w.heap.size w w4 := below_grown (HD4.out.1.alloc HD4.out.1.size _) hgrow (fun k hk => by have := (HD4.out.2.2.2.lt k hk).1; omega) (by have := HD4.out.1.size; simp; omega)
                         have hs5 : w.heap.size + 1 ≤ w4.heap.size := by have h1 := hgrow.size; have h2 := HD4.out.1.size; rw [World.size_alloc] at h1; omega
                         have HD5 := Lib.hid (And.intro hb5 (And.intro (H.out.2.1.keep hb5) (And.intro hs5 hown))); clear hs5; clear hb5 hown hgrow hnil k0 k1 k2 k3)
  have hlen := len_drop (n := fn) HM.out.1
  by_cases hcf : c = fn
  · go_wp2_with (at_builtin
                 refine wpList_append_own _ rfl _ _ 22 rfl (w.heap.size + 1) 27 i0 (.agg #[.int .i64 0, .int .u64 0, .int .u64 0]) 3 24 Try.underlying22 hi0 hz0 hz1 hz3 rfl (by decide) v2 (fn + 1) (flat (L.take fn) ++ flat [x]) rfl HD5.out.2.2.2 a (m - fn) _ (flat (L.drop fn)) rfl hlen (lies_suf0 (by rw [HM.out.1]; omega)) (flat_one _) (by unfold maxLen; omega) (by omega) HD5.out.2.2.1 ?_
                 intro v3 w5 hown hgrow hnil)
    go_ret2
    refine ⟨v3, rfl, ?_, below_grown HD5.out.1 hgrow (fun k hk => by have := (HD5.out.2.2.2.lt k hk).1; omega) (by have := HD5.out.2.2.1; omega)⟩
    rw [show L.take fn ++ x :: L.drop fn = (L.take fn ++ [x]) ++ L.drop fn by simp]
    exact told_of_own (L := (L.take fn ++ [x]) ++ L.drop fn) (by rw [flat_append, flat_append]; exact hown)
  · go_wp2_with (at_builtin
                 refine wpList_append_own _ rfl _ _ 22 rfl (w.heap.size + 1) 27 i0 (.agg #[.int .i64 0, .int .u64 0, .int .u64 0]) 3 24 Try.underlying22 hi0 hz0 hz1 hz3 rfl (by decide) v2 (fn + 1) (flat (L.take fn) ++ flat [x]) rfl HD5.out.2.2.2 (a.add (fn * 3)) (m - fn) _ (flat (L.drop fn)) rfl hlen (lies_suf HD5.out.2.1 fn) (flat_one _) (by unfold maxLen; omega) (by omega) HD5.out.2.2.1 ?_
                 intro v3 w5 hown hgrow hnil)
    go_ret2
    refine ⟨v3, rfl, ?_, below_grown HD5.out.1 hgrow (fun k hk => by have := (HD5.out.2.2.2.lt k hk).1; omega) (by have := HD5.out.2.2.1; omega)⟩
    rw [show L.take fn ++ x :: L.drop fn = (L.take fn ++ [x]) ++ L.drop fn by simp]
    exact told_of_own (L := (L.take fn ++ [x]) ++ L.drop fn) (by rw [flat_append, flat_append]; exact hown)

theorem Box3.grown {W W' : World} {row : Option Nat} {B : Nat} {x : Rw} (h : Box3 W B x) (hg : W.grownBy W' row) (hr : some B ≠ row) : Box3 W' B x := (hg.block B h.lt hr).trans h

/-- append onto a row of the call's own, as one step of a region that draws. -/
theorem step_append_own {P : Program} {ops : Array Oper} {o : Oper} {a : Act} {w : World} {K : Act → World → Prop} {Q : Exit → Act → World → Prop} {E : Prop} (hgd : o.guard = none) (s x : Operand) (t : TypeId)
    (ho : o.op = .call { callee := .builtin .append, args := #[s, x], argTypes := #[t, t] })
    (base : Nat) (e : TypeId) (i : TypeInfo) (z : Value) (size bytes : Nat) (ht : P.underlying t = some (.slice e)) (hi : P.info? e = some i) (hz : i.zero = some z)
    (hsize : i.size = size) (hby : i.bytes = bytes) (hzs : z.cells.size = size) (hsz : 0 < size)
    (v : Value) (n : Nat) (xs : List Value) (hs : a.eval s = v) (hown : w.ownsRow base e size v n xs)
    (ad : Addr) (m c : Nat) (news : List Value) (hx : a.eval x = .slice (some ad) m c) (hl : news.length = m * size) (hnews : ∀ j u, news[j]? = some u → w.cell? (ad.add j) = some u) (h1 : ∀ u ∈ news, u.oneCell' = true)
    (h63 : n + m ≤ maxLen) (hbytes : (n + m) * bytes ≤ 140737488355328) (hbase : base ≤ w.heap.size)
    (h : ∀ v' w', w'.ownsRow base e size v' (n + m) (xs ++ news) → w.grownBy w' v.ownBlock → K (a.put o.dst v') w') :
    if Region.wanted o (yielded ops a.tmps) = true then Oper.wp P o a w K Q else E := by
  have hw : Region.wanted o (yielded ops a.tmps) = true := by simp [Region.wanted, hgd]
  rw [if_pos hw]
  exact wp_append_own w s x t ho base e i z size bytes ht hi hz hsize hby hzs hsz v n xs hs hown ad m c news hx hl hnews h1 h63 hbytes hbase fun v' w' h2 h3 _ => h v' w' h2 h3


set_option maxHeartbeats 2000000 in
theorem rDropRef_no (a : Addr) (c : Nat) (L : List Rw) (hL : L.length ≤ 1000 * 1000 - 1) (key : Int) (w : World) (hl : Lies w (some a) L) (hno : isAt L key = false) :
    Calls Try.prog 10 #[.slice (some a) L.length c, .int .i64 key] w fun e w' => ∃ v, e = .returned (.tuple #[v, .agg #[.int .i64 0, .int .u64 0, .int .u64 0], .bool false]) ∧ Told w' v L ∧ Below w.heap.size w w' := by
  have hb1 : Below w.heap.size w (w.alloc (.cells #[.int .i64 0, .int .u64 0, .int .u64 0] 27)) := (Below.refl _ w).alloc (Nat.le_refl _) _
  have c2 := rAtRef_any (some a) c L (by omega) key _ (hl.keep hb1)
  rw [hno] at c2
  have hb3 : Box3 (w.alloc (.cells #[.int .i64 0, .int .u64 0, .int .u64 0] 27)) w.heap.size ⟨0, 0, 0⟩ := Box3.new w ⟨0, 0, 0⟩
  have H := Lib.hid (And.intro hb1 (And.intro hl hb3))
  have C2 := Lib.hid c2; clear c2
  clear hb1 hl hb3
  generalize hm : L.length = m at *
  have HM := Lib.hid hm; clear hm
  generalize findN L key = fn at *
  go_enter Try.func10, Try.ntmps10
  go_wp2_with (first
    | (go_at_call 12; refine C2.out.mono ?_; rintro e w2 ⟨rfl, hd⟩
       have hlw := H.out.2.1.keep (H.out.1.trans (hd.below _))
       have h3 : Box3 w2 w.heap.size ⟨0, 0, 0⟩ := ((hd.below (w.heap.size + 1)).block w.heap.size (by omega)).trans H.out.2.2
       have q0 := h3.cell0
       have q1 := h3.cell1
       have q2 := h3.cell2
       have f0 := h3.frozen 0
       have f1 := h3.frozen 1
       have f2 := h3.frozen 2
       have HD := Lib.hid (And.intro (H.out.1.trans (hd.below _)) (And.intro hlw h3)); clear hd hlw h3)
    )
  have B5 := Box3.stored HD.out.2.2 ⟨0, 0, 0⟩
  have e0 := B5.cell0
  have e1 := B5.cell1
  have e2 := B5.cell2
  have hO := only_set3 (F := fun i => i = w.heap.size) (Only.refl _ w2) rfl 0 1 2 (.int .i64 0) (.int .u64 0) (.int .u64 0)
  have hbel := Below.only HD.out.1 hO HD.out.1.size (by omega)
  refine bodyPost_ret (v := .tuple #[.slice (some a) m c, .agg #[.int .i64 0, .int .u64 0, .int .u64 0], .bool false]) ?_ rfl ⟨_, rfl, ?_, hbel⟩
  · simp only [Int.natCast_zero] at e0 e1 e2
    simp [results, Try.results10, go_sem, e0, e1, e2]
  · exact ⟨some a, c, by rw [HM.out], H.out.2.1.keep hbel⟩

set_option maxHeartbeats 2000000 in
theorem rDropRef_yes (a : Addr) (c : Nat) (L : List Rw) (hL : L.length ≤ 1000 * 1000 - 1) (hc : L.length ≤ c) (hcm : c ≤ maxLen) (key : Int) (w : World) (hl : Lies w (some a) L) (hno : isAt L key = true) :
    Calls Try.prog 10 #[.slice (some a) L.length c, .int .i64 key] w fun e w' => ∃ v, e = .returned (.tuple #[v, .agg #[.int .i64 (nth L (findN L key)).k, .int .u64 ((nth L (findN L key)).a : Nat), .int .u64 ((nth L (findN L key)).b : Nat)], .bool true]) ∧ Told w' v (L.take (findN L key) ++ L.drop (findN L key + 1)) ∧ Below w.heap.size w w' := by
  obtain ⟨i0, hi0, hz0, hz1, hz3⟩ := infoR
  have hcm' : c ≤ 9223372036854775807 := by unfold maxLen at hcm; omega
  have hlt : findN L key < L.length := (isAt_lt hno).1
  obtain ⟨b, off, ea, hb, hx⟩ := hl.at_ (by omega)
  cases ea
  obtain ⟨p0, p1, p2⟩ := hx _ hlt
  clear hx
  generalize ha : (⟨b, off, none⟩ : Addr) = a at *
  have hb1 : Below w.heap.size w (w.alloc (.cells #[.int .i64 0, .int .u64 0, .int .u64 0] 27)) := (Below.refl _ w).alloc (Nat.le_refl _) _
  have c2 := rAtRef_any (some a) c L (by omega) key _ (hl.keep hb1)
  rw [hno] at c2
  have hb3 : Box3 (w.alloc (.cells #[.int .i64 0, .int .u64 0, .int .u64 0] 27)) w.heap.size ⟨0, 0, 0⟩ := Box3.new w ⟨0, 0, 0⟩
  have H := Lib.hid (And.intro hb1 (And.intro hl hb3))
  have C2 := Lib.hid c2; clear c2
  clear hb1 hl hb3
  have hlen := fun n (h : n ≤ L.length) => len_take (L := L) h
  generalize hfn : findN L key = fn at *
  generalize hxx : nth L fn = x at *
  generalize hm : L.length = m at *
  have HM := Lib.hid (And.intro hm (And.intro (hlen fn (by omega)) hfn)); clear hm hlen hfn
  subst ha
  rcases x with ⟨xk, xa, xb⟩
  dsimp only at *
  have HX := Lib.hid (And.intro p0 (And.intro p1 p2)); clear p0 p1 p2
  go_enter Try.func10, Try.ntmps10
  go_upto_region 5 with (first
    | (go_at_call 12; refine C2.out.mono ?_; rintro e w2 ⟨rfl, hd⟩
       have hlw := H.out.2.1.keep (H.out.1.trans (hd.below _))
       have h3 : Box3 w2 w.heap.size ⟨0, 0, 0⟩ := ((hd.below (w.heap.size + 1)).block w.heap.size (by omega)).trans H.out.2.2
       have q0 := h3.cell0
       have q1 := h3.cell1
       have q2 := h3.cell2
       have f0 := h3.frozen 0
       have f1 := h3.frozen 1
       have f2 := h3.frozen 2
       have HD := Lib.hid (And.intro (H.out.1.trans (hd.below _)) (And.intro hlw h3)); clear hd hlw h3)
    | (at_builtin; refine wpList_append_own _ rfl _ _ 22 rfl (w.heap.size + 1) 27 i0 (.agg #[.int .i64 0, .int .u64 0, .int .u64 0]) 3 24 Try.underlying22 hi0 hz0 hz1 hz3 rfl (by decide) _ 0 [] rfl (World.ownsRow_lit _ #[] 0 (by have := HD.out.2.2.lt; omega) (by decide) rfl) ⟨b, off, none⟩ fn c (flat (L.take fn)) rfl HM.out.2.1 (lies_pre (HD.out.2.1.alloc _) fn) (flat_one _) (by unfold maxLen; omega) (by omega) (by have := HD.out.2.2.lt; simp; omega) ?_; intro v1 w3 hown hgrow hnil
       rw [Nat.zero_add, List.nil_append] at hown
       have hb4 : Below w2.heap.size w2 w3 := below_new hgrow rfl
       have h4 : Box3 w3 w.heap.size ⟨0, 0, 0⟩ := (hb4.block w.heap.size HD.out.2.2.lt).trans HD.out.2.2
       have HD4 := Lib.hid (And.intro (HD.out.1.trans (hb4.mono HD.out.1.size)) (And.intro h4 hown)); clear hb4 h4 hown hgrow hnil))
  clear q0 q1 q2 f0 f1 f2
  have mixed : Try.prog.follows .mixedOrders = true := by kernel_rfl
  have B5 : Box3 w3.drew w.heap.size ⟨0, 0, 0⟩ := HD4.out.2.1
  have hbA : Below w.heap.size w w3.drew := HD4.out.1.drew
  have D1 : Only (fun i => i = w.heap.size) w3 w3.drew := (Only.refl _ w3).drew
  have D2 := only_set3 D1 (B := w.heap.size) rfl 0 1 2 (.int .i64 xk) (.int .u64 (xa : Nat)) (.int .u64 (xb : Nat))
  have hbB := Below.only HD4.out.1 D2 HD4.out.1.size (by omega)
  have hOA := own_only HD4.out.2.2 D1 (by omega)
  have hOB := own_only HD4.out.2.2 D2 (by omega)
  have hzA : w.heap.size + 1 ≤ w3.drew.heap.size := B5.lt
  have hzB := Nat.le_trans hzA (by have := D2.size; exact this)
  have hlA := H.out.2.1.keep hbA
  have hlB := H.out.2.1.keep hbB
  have p0 := (hbA.cell (p := ⟨b, off + fn * 3, none⟩) hb).trans HX.out.1
  have p1 := (hbA.cell (p := ⟨b, off + fn * 3 + 1, none⟩) hb).trans HX.out.2.1
  have p2 := (hbA.cell (p := ⟨b, off + fn * 3 + 2, none⟩) hb).trans HX.out.2.2
  have a0 := B5.cell0
  have a1 := B5.cell1
  have a2 := B5.cell2
  have f0 := B5.frozen 0
  have f1 := B5.frozen 1
  have f2 := B5.frozen 2
  have HE := Lib.hid (And.intro hlA (And.intro hlB (And.intro hOA (And.intro hOB (And.intro hzA (And.intro hzB (And.intro B5 (And.intro hbA (And.intro (B5.stored ⟨xk, xa, xb⟩) hbB)))))))))
  have HN := Lib.hid (len_drop (n := fn + 1) HM.out.1)
  have hw1 : IntKind.i64.wrap ((fn : Int) + 1) = (fn : Int) + 1 := by rw [IntKind.wrap_i64]; omega
  have hw2 : ((fn : Int) + 1).toNat = fn + 1 := by omega
  have hw3 : (0 : Int) ≤ (fn : Int) + 1 := by omega
  have hw4 : fn + 1 ≤ m := by omega
  have hw5 : (fn : Int) + 1 ≤ (m : Int) := by omega
  have hw6 : fn ≤ m := by omega
  clear hlA hlB hOA hOB hzA hzB B5 hbA hbB D1 D2
  by_cases hcf : c = fn + 1
  · have HN0 : Hid ((flat (L.drop (fn + 1))).length = 0 * 3) := Lib.hid (by have := HN.out; omega)
    subst hcf
    go_region_law_o (first
      | (with_reducible refine step_append_own rfl _ _ 22 rfl (w.heap.size + 1) 27 i0 (.agg #[.int .i64 0, .int .u64 0, .int .u64 0]) 3 24 Try.underlying22 hi0 hz0 hz1 hz3 rfl (by decide) v1 fn (flat (L.take fn)) (by simp [Act.eval, Act.put]) HE.out.2.2.1 ⟨b, off, none⟩ 0 0 (flat (L.drop (fn + 1))) (by simp [Act.eval, Act.put]) HN0.out (by have := HE.out.1; exact lies_suf0 (by rw [HM.out.1]; omega)) (flat_one _) (by unfold maxLen; omega) (by omega) HE.out.2.2.2.2.1 ?_
         intro v2 w4 hown hgrow
         have B6 : Box3 w4 w.heap.size ⟨0, 0, 0⟩ := HE.out.2.2.2.2.2.2.1.grown hgrow (fun e => by have := (HE.out.2.2.1.lt _ e.symm).1; omega)
         have hb6 : Below w.heap.size w w4 := below_grown HE.out.2.2.2.2.2.2.2.1 hgrow (fun k hk => by have := (HE.out.2.2.1.lt k hk).1; omega) (by have := HE.out.2.2.2.2.1; omega)
         have k0 := B6.cell0
         have k1 := B6.cell1
         have k2 := B6.cell2
         have g0 := B6.frozen 0
         have g1 := B6.frozen 1
         have g2 := B6.frozen 2
         have r0 := (hb6.cell (p := ⟨b, off + fn * 3, none⟩) hb).trans HX.out.1
         have r1 := (hb6.cell (p := ⟨b, off + fn * 3 + 1, none⟩) hb).trans HX.out.2.1
         have r2 := (hb6.cell (p := ⟨b, off + fn * 3 + 2, none⟩) hb).trans HX.out.2.2
         have HE4 := Lib.hid (And.intro B6 (And.intro hb6 hown)); clear B6 hb6 hown hgrow)
      | (with_reducible refine step_append_own rfl _ _ 22 rfl (w.heap.size + 1) 27 i0 (.agg #[.int .i64 0, .int .u64 0, .int .u64 0]) 3 24 Try.underlying22 hi0 hz0 hz1 hz3 rfl (by decide) v1 fn (flat (L.take fn)) (by simp [Act.eval, Act.put]) HE.out.2.2.2.1 ⟨b, off, none⟩ 0 0 (flat (L.drop (fn + 1))) (by simp [Act.eval, Act.put]) HN0.out (by have := HE.out.2.1; exact lies_suf0 (by rw [HM.out.1]; omega)) (flat_one _) (by unfold maxLen; omega) (by omega) HE.out.2.2.2.2.2.1 ?_
         intro v2 w4 hown hgrow
         have B6 : Box3 w4 w.heap.size ⟨xk, xa, xb⟩ := HE.out.2.2.2.2.2.2.2.2.1.grown hgrow (fun e => by have := (HE.out.2.2.2.1.lt _ e.symm).1; omega)
         have hb6 : Below w.heap.size w w4 := below_grown HE.out.2.2.2.2.2.2.2.2.2 hgrow (fun k hk => by have := (HE.out.2.2.2.1.lt k hk).1; omega) (by have := HE.out.2.2.2.2.2.1; omega)
         have HE4 := Lib.hid (And.intro B6 (And.intro hb6 hown)); clear B6 hb6 hown hgrow))
    all_goals go_wp2_with fail
    all_goals
      have B6 := HE4.out.1
      have hb6 := HE4.out.2.1
      first
        | (have B7 := B6.stored ⟨xk, xa, xb⟩
           have e0 := B7.cell0
           have e1 := B7.cell1
           have e2 := B7.cell2
           have hO := only_set3 (F := fun i => i = w.heap.size) (Only.refl _ w4) rfl 0 1 2 (.int .i64 xk) (.int .u64 (xa : Nat)) (.int .u64 (xb : Nat))
           refine bodyPost_ret (v := .tuple #[v2, .agg #[.int .i64 xk, .int .u64 (xa : Nat), .int .u64 (xb : Nat)], .bool true]) ?_ rfl ⟨_, rfl, ?_, Below.only hb6 hO hb6.size (by omega)⟩
           · simp [results, Try.results10, go_sem, e0, e1, e2]
           · exact told_of_own (own_only (by rw [flat_append]; exact HE4.out.2.2) hO (by omega)))
        | (have e0 := B6.cell0
           have e1 := B6.cell1
           have e2 := B6.cell2
           refine bodyPost_ret (v := .tuple #[v2, .agg #[.int .i64 xk, .int .u64 (xa : Nat), .int .u64 (xb : Nat)], .bool true]) ?_ rfl ⟨_, rfl, ?_, hb6⟩
           · simp [results, Try.results10, go_sem, e0, e1, e2]
           · exact told_of_own (by rw [flat_append]; exact HE4.out.2.2))
  · go_region_law_o (first
      | (with_reducible refine step_append_own rfl _ _ 22 rfl (w.heap.size + 1) 27 i0 (.agg #[.int .i64 0, .int .u64 0, .int .u64 0]) 3 24 Try.underlying22 hi0 hz0 hz1 hz3 rfl (by decide) v1 fn (flat (L.take fn)) (by simp [Act.eval, Act.put]) HE.out.2.2.1 ⟨b, off + (fn + 1) * 3, none⟩ (m - (fn + 1)) (c - (fn + 1)) (flat (L.drop (fn + 1))) (by simp [Act.eval, Act.put]) HN.out (by have := lies_suf (HE.out.1) (fn + 1); rw [add_row] at this; exact this) (flat_one _) (by unfold maxLen; omega) (by omega) HE.out.2.2.2.2.1 ?_
         intro v2 w4 hown hgrow
         have B6 : Box3 w4 w.heap.size ⟨0, 0, 0⟩ := HE.out.2.2.2.2.2.2.1.grown hgrow (fun e => by have := (HE.out.2.2.1.lt _ e.symm).1; omega)
         have hb6 : Below w.heap.size w w4 := below_grown HE.out.2.2.2.2.2.2.2.1 hgrow (fun k hk => by have := (HE.out.2.2.1.lt k hk).1; omega) (by have := HE.out.2.2.2.2.1; omega)
         have k0 := B6.cell0
         have k1 := B6.cell1
         have k2 := B6.cell2
         have g0 := B6.frozen 0
         have g1 := B6.frozen 1
         have g2 := B6.frozen 2
         have r0 := (hb6.cell (p := ⟨b, off + fn * 3, none⟩) hb).trans HX.out.1
         have r1 := (hb6.cell (p := ⟨b, off + fn * 3 + 1, none⟩) hb).trans HX.out.2.1
         have r2 := (hb6.cell (p := ⟨b, off + fn * 3 + 2, none⟩) hb).trans HX.out.2.2
         have HE4 := Lib.hid (And.intro B6 (And.intro hb6 hown)); clear B6 hb6 hown hgrow)
      | (with_reducible refine step_append_own rfl _ _ 22 rfl (w.heap.size + 1) 27 i0 (.agg #[.int .i64 0, .int .u64 0, .int .u64 0]) 3 24 Try.underlying22 hi0 hz0 hz1 hz3 rfl (by decide) v1 fn (flat (L.take fn)) (by simp [Act.eval, Act.put]) HE.out.2.2.2.1 ⟨b, off + (fn + 1) * 3, none⟩ (m - (fn + 1)) (c - (fn + 1)) (flat (L.drop (fn + 1))) (by simp [Act.eval, Act.put]) HN.out (by have := lies_suf (HE.out.2.1) (fn + 1); rw [add_row] at this; exact this) (flat_one _) (by unfold maxLen; omega) (by omega) HE.out.2.2.2.2.2.1 ?_
         intro v2 w4 hown hgrow
         have B6 : Box3 w4 w.heap.size ⟨xk, xa, xb⟩ := HE.out.2.2.2.2.2.2.2.2.1.grown hgrow (fun e => by have := (HE.out.2.2.2.1.lt _ e.symm).1; omega)
         have hb6 : Below w.heap.size w w4 := below_grown HE.out.2.2.2.2.2.2.2.2.2 hgrow (fun k hk => by have := (HE.out.2.2.2.1.lt k hk).1; omega) (by have := HE.out.2.2.2.2.2.1; omega)
         have HE4 := Lib.hid (And.intro B6 (And.intro hb6 hown)); clear B6 hb6 hown hgrow))
    all_goals go_wp2_with fail
    all_goals
      have B6 := HE4.out.1
      have hb6 := HE4.out.2.1
      first
        | (have B7 := B6.stored ⟨xk, xa, xb⟩
           have e0 := B7.cell0
           have e1 := B7.cell1
           have e2 := B7.cell2
           have hO := only_set3 (F := fun i => i = w.heap.size) (Only.refl _ w4) rfl 0 1 2 (.int .i64 xk) (.int .u64 (xa : Nat)) (.int .u64 (xb : Nat))
           refine bodyPost_ret (v := .tuple #[v2, .agg #[.int .i64 xk, .int .u64 (xa : Nat), .int .u64 (xb : Nat)], .bool true]) ?_ rfl ⟨_, rfl, ?_, Below.only hb6 hO hb6.size (by omega)⟩
           · simp [results, Try.results10, go_sem, e0, e1, e2]
           · exact told_of_own (own_only (by rw [flat_append]; exact HE4.out.2.2) hO (by omega)))
        | (have e0 := B6.cell0
           have e1 := B6.cell1
           have e2 := B6.cell2
           refine bodyPost_ret (v := .tuple #[v2, .agg #[.int .i64 xk, .int .u64 (xa : Nat), .int .u64 (xb : Nat)], .bool true]) ?_ rfl ⟨_, rfl, ?_, hb6⟩
           · simp [results, Try.results10, go_sem, e0, e1, e2]
           · exact told_of_own (by rw [flat_append]; exact HE4.out.2.2))

theorem rPutRef_any (a : Addr) (c : Nat) (L : List Rw) (hL : L.length ≤ 1000 * 1000 - 1) (hc : L.length ≤ c) (hcm : c ≤ maxLen) (x : Rw) (w : World) (hl : Lies w (some a) L) :
    Calls Try.prog 8 #[.slice (some a) L.length c, .agg #[.int .i64 x.k, .int .u64 (x.a : Nat), .int .u64 (x.b : Nat)]] w fun e w' => ∃ v, e = .returned (.tuple #[v, .bool (!isAt L x.k)]) ∧ Told w' v (putL L x) ∧ Below w.heap.size w w' := by
  unfold putL
  cases h : isAt L x.k with
  | false => exact rPutRef_yes a c L hL hc hcm x w hl h
  | true => exact rPutRef_no a c L hL hc x w hl h
theorem rDropRef_any (a : Addr) (c : Nat) (L : List Rw) (hL : L.length ≤ 1000 * 1000 - 1) (hc : L.length ≤ c) (hcm : c ≤ maxLen) (key : Int) (w : World) (hl : Lies w (some a) L) :
    Calls Try.prog 10 #[.slice (some a) L.length c, .int .i64 key] w fun e w' => ∃ v, e = .returned (.tuple #[v, .agg #[.int .i64 (dropX L key).k, .int .u64 ((dropX L key).a : Nat), .int .u64 ((dropX L key).b : Nat)], .bool (isAt L key)]) ∧ Told w' v (dropL L key) ∧ Below w.heap.size w w' := by
  unfold dropX dropL
  cases h : isAt L key with
  | false => exact rDropRef_no a c L hL key w hl h
  | true => exact rDropRef_yes a c L hL hc hcm key w hl h
end Go.Proofs.Ytajkbeihopicnaa
