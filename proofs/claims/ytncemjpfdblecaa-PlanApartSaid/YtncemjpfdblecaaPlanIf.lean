/- What a word is, as a plan answers it; with it all contracts of package plan, which the laws of layer 5 (and all layers above) are walked over: pNew_no, pNew_yes, pWords_any, pWords_nil, pAt_any, pAt_nil, pWhat_any, pWhat_nil, pConf_any, pConf_nil. -/
import Derived.Test.YtncemjpfdblecaaPlanAt
import Derived.Laws.ResultCell
namespace Go.Proofs.Ytncemjpfdblecaa
open Go.ChangeShapes Go.WideShapes Go.ChangeAt Go.RowKit

theorem results_row_tmp {P : Program} {fn : Func} {p u : Tmp} {ty : TypeId} (h : fn.results = #[.cell p ty, .tmp u]) (tmps : Array Value) (w : World) (g : Nat) (t : TypeId) (cs : Array Value) (fr : Nat × Nat) (d : TypeDesc)
    (hp : tmps.getD p undef = .pointer (some ⟨g, 0, none⟩)) (hg : w.heap[g]? = some (.cells cs t fr))
    (hu : P.underlying ty = some d) (hd : (match d with | .struct _ | .array _ _ => true | _ => false) = true) (hi : (P.info? ty).map (·.size) = some cs.size) :
    (results fn tmps).run P w = .ok (.tuple #[.agg cs, tmps.getD u undef]) w := by
  rw [results_cell_tmp h, hp]
  simp [asAddr, run_loadVar_row w g t ty cs fr d hg hu hd hi]

theorem pWhat_nil (i : Int) (w : World) : Calls Try.prog 6 #[.pointer none, .int .i64 i] w fun e w' => e = .returned (.tuple #[.agg (rowOf 4 (ints fun _ => 0)), .bool false]) ∧ Below w.heap.size w w' := by
  have f4 : #[Value.int .i64 0, Value.int .i64 0, Value.int .i64 0, Value.int .i64 0] = rowOf 4 (ints fun _ => 0) := rfl
  have hb : belowB i 0 = false := belowB_no (by omega)
  have cB := pBelow_any i 0
  rw [hb] at cB
  have CB := Lib.hid cB; clear cB hb
  have CW := Lib.hid pWords_nil
  go_enter Try.func6, Try.ntmps6
  go_upto_region 1 with fail
  generalize hW : World.alloc _ _ = W
  have hq : Row W w.heap.size 26 4 (ints fun _ => 0) := by rw [← hW]; exact Row.new _ _ _ _ _ rfl
  have hB : Below w.heap.size w W := by rw [← hW]; exact (Below.refl _ _).alloc (Nat.le_refl _) _
  clear hW
  generalize hz : w.heap.size = a1 at *
  have HZ := Lib.hid hz; clear hz
  have HQ := Lib.hid hq; have HB := Lib.hid hB
  clear hq hB
  go_wp2_with fail
  refine (CW.out _).mono ?_; rintro e W1 ⟨rfl, hb⟩
  have hq1 := HQ.out.keep hb
  have HB1 := Lib.hid (below_on HB.out (Nat.le_of_eq HZ.out.symm) hb)
  clear hb HQ HB
  go_wp2_with (first | (go_at_call 15; refine (CB.out _).mono ?_; rintro e w' ⟨rfl, rfl⟩) | (refine wpList_store_row rfl 26 _ _ rfl a1 (rowOf 4 (ints fun _ => 0)) rfl rfl 26 (rowOf 4 (ints fun _ => 0)) hq1 (by kernel_rfl) rfl (ints_one _ _) ?_))
  exact bodyPost_ret (results_row_tmp (p := 4) (u := 5) (ty := 26) (by kernel_rfl) _ _ a1 26 (rowOf 4 (ints fun _ => 0)) (0, 0) _ rfl (hq1.setRow_ _) Try.underlying26 rfl (by kernel_rfl)) rfl ⟨rfl, by rw [HZ.out]; exact below_setRow_ HB1.out (by omega) _⟩

theorem four_set {W : World} {g : Nat} {t : TypeId} {f : Nat → Value} (h : Row W g t 4 f) (p q r s : Value) :
    Row ((((W.setCell ⟨g, 0, none⟩ p).setCell ⟨g, 1, none⟩ q).setCell ⟨g, 2, none⟩ r).setCell ⟨g, 3, none⟩ s) g t 4 (fun i => if i = 0 then p else if i = 1 then q else if i = 2 then r else s) :=
  ((((h.set_ 0 p).set_ 1 q).set_ 2 r).set_ 3 s).congr fun i hi => by
    match i, hi with
    | 0, _ => rfl
    | 1, _ => rfl
    | 2, _ => rfl
    | 3, _ => rfl
theorem row_four {W : World} {g : Nat} {t : TypeId} {x : Nat → Int} {p q r s : Value} (h : Row W g t 4 (fun i => if i = 0 then p else if i = 1 then q else if i = 2 then r else s)) (he : #[p, q, r, s] = rowOf 4 (ints x)) : Row W g t 4 (ints x) := by
  unfold Row at h ⊢
  rw [h, ← he]
  rfl

theorem whatB_no {c : Nat → Int} {i : Int} (h : belowB i (wordsN c : Nat) = false) : whatB c i = false ∧ whatP c i = fun _ => 0 := by
  unfold whatB whatP
  refine ⟨h, if_neg fun hp => ?_⟩
  rw [belowB_yes hp] at h
  cases h
set_option maxRecDepth 100000 in
set_option maxHeartbeats 4000000 in
theorem pWhat_any (a : Addr) (c : Nat → Int) (i : Int) (hi : -9223372036854775808 ≤ i ∧ i ≤ 9223372036854775807) (w : World) (h : PlanIs w a c) :
    Calls Try.prog 6 #[.pointer (some a), .int .i64 i] w fun e w' => e = .returned (.tuple #[.agg (rowOf 4 (ints (whatP c i))), .bool (whatB c i)]) ∧ Below w.heap.size w w' := by
  rw [h.at_]
  have hp := h
  rw [h.at_] at hp
  have hm := h.1
  have hg := h.2.2.2.2.lt
  have hwb := words_bounds hm
  generalize a.block = g at *
  clear h
  have CW := Lib.hid (pWords_any ⟨g, 0, none⟩ c)
  have CK := Lib.hid (fun r k w => pKind_any ⟨g, 0, none⟩ c r k w)
  have cB := pBelow_any i (wordsN c : Nat)
  cases hb : belowB i (wordsN c : Nat)
  · rw [hb] at cB
    have f4 : #[Value.int .i64 0, Value.int .i64 0, Value.int .i64 0, Value.int .i64 0] = rowOf 4 (ints fun _ => 0) := rfl
    obtain ⟨e1, e2⟩ := whatB_no hb
    rw [e1, e2]
    have CB := Lib.hid cB; clear cB hb e1 e2
    generalize (wordsN c : Nat) = n at *
    go_enter Try.func6, Try.ntmps6
    go_upto_region 1 with fail
    generalize hW : World.alloc _ _ = W
    have hq : Row W w.heap.size 26 4 (ints fun _ => 0) := by rw [← hW]; exact Row.new _ _ _ _ _ rfl
    have hB : Below w.heap.size w W := by rw [← hW]; exact (Below.refl _ _).alloc (Nat.le_refl _) _
    replace hp := hp.keep hB
    clear hW
    generalize hz : w.heap.size = a1 at *
    have HZ := Lib.hid hz; clear hz
    have HQ := Lib.hid hq; have HB := Lib.hid hB
    clear hq hB
    go_wp2_with fail
    refine (CW.out _ hp).mono ?_; rintro e W1 ⟨rfl, hb⟩
    have hq1 := HQ.out.keep hb
    have HB1 := Lib.hid (below_on HB.out (Nat.le_of_eq HZ.out.symm) hb)
    clear hb HQ HB CW CK
    go_wp2_with (first | (go_at_call 15; refine (CB.out _).mono ?_; rintro e w' ⟨rfl, rfl⟩) | (refine wpList_store_row rfl 26 _ _ rfl a1 (rowOf 4 (ints fun _ => 0)) rfl rfl 26 (rowOf 4 (ints fun _ => 0)) hq1 (by kernel_rfl) rfl (ints_one _ _) ?_))
    exact bodyPost_ret (results_row_tmp (p := 4) (u := 5) (ty := 26) (by kernel_rfl) _ _ a1 26 (rowOf 4 (ints fun _ => 0)) (0, 0) _ rfl (hq1.setRow_ _) Try.underlying26 rfl (by kernel_rfl)) rfl ⟨rfl, by rw [HZ.out]; exact below_setRow_ HB1.out (by omega) _⟩
  · rw [hb] at cB
    have hib := belowB_iff.1 hb
    obtain ⟨n, hn⟩ := Int.eq_ofNat_of_zero_le hib.1
    subst hn
    have hnw : n < wordsN c := by omega
    have hrl : n % perN c < perN c := Nat.mod_lt _ (perN_pos c)
    obtain ⟨k, hk, k1, k2⟩ := kind_ex hm _ hrl
    obtain ⟨e1, e2, e3⟩ := kindR_at hm _ k hk k1 k2
    have hP : Hid (whatP c (n : Nat) = plc c n) := Lib.hid (by unfold whatP; rw [if_pos hib]; rfl)
    have hW : whatB c (n : Nat) = true := hb
    rw [hW, hP.out]
    have CB := Lib.hid cB; clear cB hb hW
    have hps : (perN c : Int) = planN c 54 := (perN_int hm).trans (planN_size c).symm
    have hrow := Lib.hid hp.2.2.2.2
    go_enter Try.func6, Try.ntmps6
    go_upto_region 1 with fail
    generalize hW : World.alloc _ _ = W
    have hq : Row W w.heap.size 26 4 (ints fun _ => 0) := by rw [← hW]; exact Row.new _ _ _ _ _ rfl
    have hB : Below w.heap.size w W := by rw [← hW]; exact (Below.refl _ _).alloc (Nat.le_refl _) _
    replace hp := hp.keep hB
    clear hW hrow
    generalize hz : w.heap.size = a1 at *
    have HZ := Lib.hid hz; clear hz
    have HQ := Lib.hid hq; have HB := Lib.hid hB
    clear hq hB
    go_wp2_with fail
    refine (CW.out _ hp).mono ?_; rintro e W1 ⟨rfl, hb⟩
    have hq1 := HQ.out.keep hb
    replace hp := hp.keep hb
    have HB1 := Lib.hid (below_on HB.out (Nat.le_of_eq HZ.out.symm) hb)
    clear hb HQ HB CW
    have z1 : W1.cell? ⟨g, 54, none⟩ = some (.int .i64 (perN c : Nat)) := by rw [hps]; exact hp.2.2.2.2.cell (i := 54) (by omega)
    go_upto_region 3 with (first | (go_at_call 15; refine (CB.out _).mono ?_; rintro e w' ⟨rfl, rfl⟩))
    have q0 : (0 : Int) ≤ (n : Int) := by omega
    have hpn : 0 < perN c ∧ perN c ≤ 418 := by
      obtain ⟨-, -, -, b10, b11, -⟩ := may_bounds hm
      exact ⟨perN_pos c, by unfold perN; omega⟩
    clear hps
    have hpl : Hid (#[Value.int .i64 ((n / perN c : Nat) : Int), .int .i64 k, .int .i64 (firstK k + ((n % perN c : Nat) - atK c k) / eachK k), .int .i64 (((n % perN c : Nat) - atK c k) % eachK k)] = rowOf 4 (ints (plc c n))) := Lib.hid (by
      rw [← e1, ← e2, ← e3]; rfl)
    generalize hper : perN c = per at *
    have HPER := Lib.hid hper; clear hper e1 e2 e3
    have hd1 : Hid (wrap64 ((n : Int) / (per : Int)) = ((n / per : Nat) : Int)) := Lib.hid (by
      have : n / per ≤ n := Nat.div_le_self ..
      rw [← Int.natCast_ediv]
      generalize n / per = z at this ⊢
      unfold wrap64; omega)
    have hd2 : Hid ((n : Int) % (per : Int) = ((n % per : Nat) : Int)) := Lib.hid (Int.natCast_emod ..).symm
    go_quiet (fail)
    go_upto_region 4 with fail
    rw [hd1.out, hd2.out]
    generalize hW2 : World.drewN _ _ = W2
    have hb : Below W1.heap.size W1 W2 := by rw [← hW2]; exact below_drewN (Below.refl _ _) _
    replace hq1 := hq1.keep hb
    replace hp := hp.keep hb
    replace HB1 := Lib.hid (below_on HB1.out (Nat.le_of_eq HZ.out.symm) hb)
    clear hW2 hb z1 hd1 hd2 CB
    generalize n / per = L at *
    generalize n % per = r at *
    go_wp2_with fail
    refine (CK.out r k _ hp hk k1 k2).mono ?_; rintro e w2 ⟨rfl, rfl⟩
    obtain ⟨v0, v1, v2, v3⟩ := part_at hp.2.2.2.2 k hk
    have q0 : (0 : Int) ≤ (k : Int) := by omega
    have q1 : (k : Int) < 10 := by omega
    obtain ⟨-, -, -, b10, b11, -⟩ := may_bounds hm
    have hsz := atK_bounds c k b10 b11
    have he2 := eachK_two k
    have hfx : firstK k = 0 ∨ firstK k = 1 := by unfold firstK; split; exact Or.inl rfl; exact Or.inr rfl
    generalize atK c k = s at *
    generalize firstK k = f at *
    generalize countK c k = m at *
    generalize eachK k = e at *
    go_upto_region 6 with fail
    have hg2 : g < W2.heap.size := hp.2.2.2.2.lt
    have ha2 : a1 < W2.heap.size := hq1.lt
    clear v0 v1 v2 v3 CK
    generalize hW3 : World.alloc _ _ = W3
    have hb : Below W2.heap.size W2 W3 := by rw [← hW3]; exact (Below.refl _ _).alloc (Nat.le_refl _) _
    have hr2 : Row W3 W2.heap.size 46 4 (ints fun j => if j = 0 then s else if j = 1 then f else if j = 2 then m else e) := by rw [← hW3]; exact Row.new W2 #[.int .i64 s, .int .i64 f, .int .i64 m, .int .i64 e] _ (ints fun j => if j = 0 then s else if j = 1 then f else if j = 2 then m else e) 4 rfl
    replace hq1 := hq1.keep hb
    replace HB1 := Lib.hid (below_on HB1.out (Nat.le_of_eq HZ.out.symm) hb)
    clear hW3 hb hp
    generalize W2.heap.size = a2 at *
    have v0 : W3.cell? ⟨a2, 0, none⟩ = some (.int .i64 s) := hr2.cell (i := 0) (by omega)
    have v1 : W3.cell? ⟨a2, 1, none⟩ = some (.int .i64 f) := hr2.cell (i := 1) (by omega)
    have v3 : W3.cell? ⟨a2, 3, none⟩ = some (.int .i64 e) := hr2.cell (i := 3) (by omega)
    have c0 : W3.cell? ⟨a1, 0, none⟩ = some (.int .i64 0) := hq1.cell (i := 0) (by omega)
    have c1 : W3.cell? ⟨a1, 1, none⟩ = some (.int .i64 0) := hq1.cell (i := 1) (by omega)
    have c2 : W3.cell? ⟨a1, 2, none⟩ = some (.int .i64 0) := hq1.cell (i := 2) (by omega)
    have c3 : W3.cell? ⟨a1, 3, none⟩ = some (.int .i64 0) := hq1.cell (i := 3) (by omega)
    have o0 : W3.frozen? ⟨a1, 0, none⟩ = false := hq1.frozen 0
    have o1 : W3.frozen? ⟨a1, 1, none⟩ = false := hq1.frozen 1
    have o2 : W3.frozen? ⟨a1, 2, none⟩ = false := hq1.frozen 2
    have o3 : W3.frozen? ⟨a1, 3, none⟩ = false := hq1.frozen 3
    clear hr2
    have HQ := Lib.hid hq1
    clear hq1
    rcases he2 with rfl | rfl
    · go_upto_region 7 with fail
      go_region
      go_wp2_with fail
      have hrow := row_four ((four_set HQ.out (.int .i64 (L : Int)) (.int .i64 (k : Int)) _ _).drew) (by rw [← hpl.out, Int.ediv_one, Int.emod_one])
      exact bodyPost_ret (results_row_tmp (p := 4) (u := 5) (ty := 26) (by kernel_rfl) _ _ a1 26 (rowOf 4 (ints (plc c n))) (0, 0) _ rfl hrow Try.underlying26 rfl (by kernel_rfl)) rfl ⟨rfl, by rw [HZ.out]; exact ((((HB1.out.setCell (Nat.le_refl _) _).setCell (Nat.le_refl _) _).setCell (Nat.le_refl _) _).setCell (Nat.le_refl _) _).drew⟩
    · go_upto_region 7 with fail
      go_region
      go_wp2_with fail
      have hrow := row_four ((four_set HQ.out (.int .i64 (L : Int)) (.int .i64 (k : Int)) _ _).drew) hpl.out
      exact bodyPost_ret (results_row_tmp (p := 4) (u := 5) (ty := 26) (by kernel_rfl) _ _ a1 26 (rowOf 4 (ints (plc c n))) (0, 0) _ rfl hrow Try.underlying26 rfl (by kernel_rfl)) rfl ⟨rfl, by rw [HZ.out]; exact ((((HB1.out.setCell (Nat.le_refl _) _).setCell (Nat.le_refl _) _).setCell (Nat.le_refl _) _).setCell (Nat.le_refl _) _).drew⟩
end Go.Proofs.Ytncemjpfdblecaa
