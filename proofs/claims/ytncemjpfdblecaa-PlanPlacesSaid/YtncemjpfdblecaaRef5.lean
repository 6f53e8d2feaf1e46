/- The document's answers of layer 5 (burnbagref05): all places, in order, as a function of the number of the word. -/
import Derived.Test.YtncemjpfdblecaaConf
import Derived.Test.YtncemjpfdblecaaRow
import Derived.OwnWalk
namespace Go.Proofs.Ytncemjpfdblecaa
open Go.ChangeShapes Go.WideShapes Go.ChangeAt Go.RowKit

/-- How many words a level has. -/
def perN (c : Nat → Int) : Nat := 18 + (c 11).toNat + 6 * (c 10).toNat
/-- The kind, I and J of the r-th word of a level. -/
def kindR (c : Nat → Int) (r : Nat) : Nat × Nat × Nat :=
  if r < 4 then (r, 0, 0) else if r < 8 then (4, r - 4, 0) else if r < 10 then (5, r - 8, 0) else if r < 18 then (6, r - 10, 0) else if r < 18 + (c 11).toNat then (7, r - 18, 0)
  else if r < 18 + (c 11).toNat + (c 10).toNat then (8, r - 18 - (c 11).toNat + 1, 0) else (9, (r - 18 - (c 11).toNat - (c 10).toNat) / 5 + 1, (r - 18 - (c 11).toNat - (c 10).toNat) % 5)
/-- The place of the n-th word, as four numbers. -/
def plc (c : Nat → Int) (n : Nat) : Nat → Int := fun j =>
  if j = 0 then (n / perN c : Nat) else if j = 1 then ((kindR c (n % perN c)).1 : Nat) else if j = 2 then ((kindR c (n % perN c)).2.1 : Nat) else ((kindR c (n % perN c)).2.2 : Nat)
def plcV (c : Nat → Int) (n : Nat) : List Value := [.int .i64 (plc c n 0), .int .i64 (plc c n 1), .int .i64 (plc c n 2), .int .i64 (plc c n 3)]
/-- The first n places, cell by cell. -/
def flat (c : Nat → Int) : Nat → List Value
  | 0 => []
  | n + 1 => flat c n ++ plcV c n
theorem perN_pos (c : Nat → Int) : 0 < perN c := by unfold perN; omega
theorem plc_at (c : Nat → Int) (m r : Nat) (hr : r < perN c) : (m * perN c + r) / perN c = m ∧ (m * perN c + r) % perN c = r := by
  constructor
  · rw [Nat.mul_comm, Nat.mul_add_div (perN_pos c), Nat.div_eq_of_lt hr, Nat.add_zero]
  · rw [Nat.mul_comm, Nat.mul_add_mod, Nat.mod_eq_of_lt hr]
theorem flat_step (c : Nat → Int) (m r n : Nat) (K I J : Int) (hn : n = m * perN c + r) (hr : r < perN c) (hK : ((kindR c r).1 : Int) = K) (hI : ((kindR c r).2.1 : Int) = I) (hJ : ((kindR c r).2.2 : Int) = J) :
    flat c (n + 1) = flat c n ++ [.int .i64 (m : Int), .int .i64 K, .int .i64 I, .int .i64 J] := by
  subst hn
  obtain ⟨h1, h2⟩ := plc_at c m r hr
  show flat c _ ++ plcV c _ = _
  unfold plcV plc
  rw [h1, h2, ← hK, ← hI, ← hJ]
  rfl
theorem flat_len (c : Nat → Int) (n : Nat) : (flat c n).length = n * 4 := by
  induction n with
  | zero => rfl
  | succ n ih => show (flat c n ++ plcV c n).length = _; rw [List.length_append, ih]; show _ + 4 = _; omega
theorem flat_get (c : Nat → Int) (n i j : Nat) (hi : i < n) (hj : j < 4) : (flat c n)[i * 4 + j]? = some (.int .i64 (plc c i j)) := by
  induction n with
  | zero => omega
  | succ n ih =>
    show (flat c n ++ plcV c n)[i * 4 + j]? = _
    rcases Nat.lt_or_ge i n with h | h
    · rw [List.getElem?_append_left (by rw [flat_len]; omega)]
      exact ih h
    · obtain rfl : i = n := by omega
      rw [List.getElem?_append_right (by rw [flat_len]; omega), flat_len, Nat.add_sub_cancel_left]
      match j, hj with
      | 0, _ => rfl
      | 1, _ => rfl
      | 2, _ => rfl
      | 3, _ => rfl
/-- Where the k-th of the kinds 4 to 7 begins, and how many there are. -/
def offK (c : Nat → Int) (k : Nat) : Nat := if k = 0 then 4 else if k = 1 then 8 else if k = 2 then 10 else if k = 3 then 18 else 18 + (c 11).toNat
def manyK (c : Nat → Int) (k : Nat) : Int := if k = 0 then 4 else if k = 1 then 2 else if k = 2 then 8 else c 11
theorem manyK_bounds (c : Nat → Int) (k : Nat) (h : 1 ≤ c 11 ∧ c 11 ≤ 40) : 0 ≤ manyK c k ∧ manyK c k ≤ 40 := by
  unfold manyK
  repeat' split
  all_goals omega
theorem offK_succ (c : Nat → Int) (k : Nat) (hk : k < 4) (h : 1 ≤ c 11 ∧ c 11 ≤ 40) : offK c (k + 1) = offK c k + (manyK c k).toNat ∧ offK c k + (manyK c k).toNat ≤ 18 + (c 11).toNat := by
  unfold offK manyK
  match k, hk with
  | 0, _ => exact ⟨rfl, by simp; omega⟩
  | 1, _ => exact ⟨rfl, by simp; omega⟩
  | 2, _ => exact ⟨rfl, by simp⟩
  | 3, _ => exact ⟨rfl, by simp⟩
theorem kind_one (c : Nat → Int) (k : Nat) (h : k < 4) : kindR c k = (k, 0, 0) := by unfold kindR; rw [if_pos h]
theorem kind_many (c : Nat → Int) (k i : Nat) (hk : k < 4) (hi : (i : Int) < manyK c k) : kindR c (offK c k + i) = (4 + k, i, 0) := by
  unfold manyK at hi
  unfold kindR offK
  match k, hk with
  | 0, _ => simp at hi ⊢; rw [if_neg (by omega), if_pos (by omega)]
  | 1, _ => simp at hi ⊢; rw [if_neg (by omega), if_neg (by omega), if_pos (by omega)]
  | 2, _ => simp at hi ⊢; rw [if_neg (by omega), if_neg (by omega), if_neg (by omega), if_pos (by omega)]
  | 3, _ => simp at hi ⊢; rw [if_neg (by omega), if_neg (by omega), if_neg (by omega), if_neg (by omega), if_pos (by omega)]
theorem kind_link (c : Nat → Int) (s : Nat) (hs : (s : Int) < c 10) : kindR c (18 + (c 11).toNat + s) = (8, s + 1, 0) := by
  unfold kindR
  rw [if_neg (by omega), if_neg (by omega), if_neg (by omega), if_neg (by omega), if_neg (by omega), if_pos (by omega)]
  simp; omega
theorem kind_node (c : Nat → Int) (s j : Nat) (hj : j < 5) : kindR c (18 + (c 11).toNat + (c 10).toNat + 5 * s + j) = (9, s + 1, j) := by
  unfold kindR
  rw [if_neg (by omega), if_neg (by omega), if_neg (by omega), if_neg (by omega), if_neg (by omega), if_neg (by omega)]
  have h1 : 18 + (c 11).toNat + (c 10).toNat + 5 * s + j - 18 - (c 11).toNat - (c 10).toNat = 5 * s + j := by omega
  rw [h1, Nat.mul_add_div (by omega), Nat.mul_add_mod, Nat.div_eq_of_lt hj, Nat.mod_eq_of_lt hj]

theorem p_info : (Try.prog.info? 41).map (fun i => (i.zero, i.size, i.bytes)) = some (some (.agg #[.int .i64 0, .int .i64 0, .int .i64 0, .int .i64 0]), 4, 32) := by kernel_rfl
/-- n places have been gathered. -/
def AllR (W : World) (B : Nat) (c : Nat → Int) (n : Nat) (v : Value) (wr : World) : Prop := wr.ownsRow B 41 4 v n (flat c n) ∧ Below B W wr

set_option maxRecDepth 100000 in
set_option maxHeartbeats 4000000 in
theorem rAll_any (c : Nat → Int) (h0 : 1 ≤ c 0 ∧ c 0 ≤ 4) (hS : 2 ≤ c 10 ∧ c 10 ≤ 60) (hL : 1 ≤ c 11 ∧ c 11 ≤ 40) (w : World) :
    Calls Try.prog 13 #[.agg (rowOf 14 (ints c))] w fun e w' => ∃ v, e = .returned v ∧ w'.ownsRow (w.heap.size + 1) 41 4 v ((c 0).toNat * perN c) (flat c ((c 0).toNat * perN c)) ∧ Below w.heap.size w w' := by
  obtain ⟨i0, hi0, hz0, hz1, hz2⟩ := info_parts p_info
  have hper : perN c = 18 + (c 11).toNat + 6 * (c 10).toNat := rfl
  have HP := Lib.hid hper; clear hper
  go_enter Try.func13, Try.ntmps13
  go_upto_region 1 with fail
  generalize hW : World.alloc _ _ = W
  have hr : Row W w.heap.size 24 14 (ints c) := by rw [← hW]; exact Row.new _ _ _ _ _ rfl
  have hB : Below w.heap.size w W := by rw [← hW]; exact (Below.refl _ _).alloc (Nat.le_refl _) _
  have HB1 := Lib.hid (show W.heap.size = w.heap.size + 1 by rw [← hW]; simp)
  clear hW
  generalize hz : w.heap.size = a1 at *
  have HZ := Lib.hid hz; clear hz
  obtain ⟨f0, -, -, -, -, -, -, -, -, -, f10, f11, -, -⟩ := conf_cells hr
  have hlt1 := hr.lt
  have hcells : ∀ wr, Below W.heap.size W wr → wr.cell? ⟨a1, 0, none⟩ = some (.int .i64 (c 0)) ∧ wr.cell? ⟨a1, 3 + 7, none⟩ = some (.int .i64 (c 10)) ∧ wr.cell? ⟨a1, 4 + 7, none⟩ = some (.int .i64 (c 11)) := fun wr hb => by
    have h := hr.keep hb
    exact ⟨h.cell (i := 0) (by omega), h.cell (i := 10) (by omega), h.cell (i := 11) (by omega)⟩
  have HC := Lib.hid hcells; clear hcells hr
  generalize hBB : W.heap.size = B at *
  have HBB := Lib.hid hBB; clear hBB
  have hBW : B ≤ W.heap.size := Nat.le_of_eq HBB.out.symm
  go_wp2_with fail
  go_loopw [3, 4] (fun v s wr => ∃ m : Nat, s = .int .i64 m ∧ (m : Int) ≤ c 0 ∧ AllR W B c (m * perN c) v wr) (fun _ s _ => 4 - (intOf s).toNat)
  case atStart => exact ⟨0, rfl, by omega, by rw [Nat.zero_mul]; exact ⟨World.ownsRow_nil _ _ _ _, by rw [← HBB.out]; exact Below.refl _ _⟩⟩
  case round =>
    obtain ⟨m, rfl, hm, hown, hbr⟩ := hrel
    clear f0 f10 f11
    obtain ⟨f0, f10, f11⟩ := HC.out _ hbr
    by_cases hlt : (m : Int) < c 0
    · have hb0 : m * perN c ≤ 3 * 418 := Nat.mul_le_mul (by omega) (by rw [HP.out]; omega)
      have HN : Hid (∀ r, r < perN c → ∀ n, n = m * perN c + r → ∀ K I J : Int, ((kindR c r).1 : Int) = K → ((kindR c r).2.1 : Int) = I → ((kindR c r).2.2 : Int) = J → flat c (n + 1) = flat c n ++ [.int .i64 (m : Int), .int .i64 K, .int .i64 I, .int .i64 J]) :=
        Lib.hid (fun r h n hn K I J h1 h2 h3 => flat_step c m r n K I J hn h h1 h2 h3)
      have HE : Hid ((m + 1) * perN c = m * perN c + perN c) := Lib.hid (Nat.succ_mul ..)
      generalize m * perN c = b0 at *
      go_wp2_with fail
      obtain ⟨wo, hwo⟩ : ∃ wo : World, wo = wr := ⟨_, rfl⟩
      subst hwo
      go_loopw [3, 5] (fun v s wr => ∃ k : Nat, s = .int .i64 k ∧ k ≤ 4 ∧ AllR W B c (b0 + k) v wr) (fun _ s _ => 4 - (intOf s).toNat)
      case atStart => exact ⟨0, rfl, by omega, hown, hbr⟩
      case round =>
        obtain ⟨k, rfl, hk, hown, hbr⟩ := hrel
        by_cases hlt : k < 4
        · go_wp2_with (at_builtin; refine wpList_append_own _ rfl _ _ 38 rfl B 41 i0 (.agg #[.int .i64 0, .int .i64 0, .int .i64 0, .int .i64 0]) 4 32 Try.underlying38 hi0 hz0 hz1 hz2 rfl (by decide) _ _ _ rfl (hown.alloc _) ⟨wr.heap.size, 0, none⟩ 1 1 [.int .i64 (m : Int), .int .i64 (k : Int), .int .i64 0, .int .i64 0] rfl rfl ?c1 ?c2 ?c3 ?c4 ?c5 ?_)
          case c1 =>
            intro j u hj
            match j, hj with
            | 0, hj => simp at hj; subst hj; simp [Addr.add]
            | 1, hj => simp at hj; subst hj; simp [Addr.add]
            | 2, hj => simp at hj; subst hj; simp [Addr.add]
            | 3, hj => simp at hj; subst hj; simp [Addr.add]
          case c2 => intro u hu; simp at hu; rcases hu with rfl | rfl | rfl | rfl <;> rfl
          case c3 => unfold maxLen; omega
          case c4 => omega
          case c5 => have := hbr.size; simp; omega
          intro v' w1 hown' hgrow _
          have hbn : Below B W w1 := (hbr.alloc (by have := hbr.size; omega) _).grown hgrow (by have := hbr.size; simp; omega) (fun g hg => (hown.lt g hg).1)
          clear hgrow hown
          go_wp2_with fail
          go_roundw
          case rel => exact ⟨k + 1, by go_num, by omega, by unfold AllR; rw [show b0 + (k + 1) = b0 + k + 1 by omega, HN.out k (by rw [HP.out]; omega) _ rfl k 0 0 (by rw [kind_one c k hlt]) (by rw [kind_one c k hlt]; rfl) (by rw [kind_one c k hlt]; rfl)]; exact ⟨hown', hbn⟩⟩
          case measure => simp [intOf]; omega
        · obtain rfl : k = 4 := by omega
          rw [show ((4 : Nat) : Int) = 4 from rfl]
          clear f0 f10 f11
          obtain ⟨f0, f10, f11⟩ := HC.out _ hbr
          go_upto_region 11 with fail
          obtain ⟨wo2, hwo2⟩ : ∃ wo2 : World, wo2 = wr := ⟨_, rfl⟩
          subst hwo2
          generalize hgm : wo2.heap.size = gm at *
          generalize hW3 : World.alloc _ _ = W3
          have hmr : Row W3 gm 3 4 (ints (manyK c)) := by rw [← hW3, ← hgm]; exact Row.new _ _ _ _ _ rfl
          replace hown := hown.alloc (.cells #[.int .i64 4, .int .i64 2, .int .i64 8, .int .i64 (c 11)] 3)
          rw [hW3] at hown
          replace hbr : Below B W W3 := by rw [← hW3]; exact hbr.alloc (by have := hbr.size; omega) _
          clear hW3 hgm f0 f10 f11
          go_wp2_with fail
          go_loopw [3, 7] (fun v s wr => ∃ k : Nat, s = .int .i64 k ∧ k ≤ 4 ∧ AllR W B c (b0 + offK c k) v wr ∧ Row wr gm 3 4 (ints (manyK c))) (fun _ s _ => 4 - (intOf s).toNat)
          case atStart => exact ⟨0, rfl, by omega, ⟨hown, hbr⟩, hmr⟩
          case round =>
            obtain ⟨k, rfl, hk, ⟨hown, hbr⟩, hmr⟩ := hrel
            by_cases hlt : k < 4
            · obtain ⟨ho1, ho2⟩ := offK_succ c k hlt hL
              have HO := Lib.hid ho1
              have hmb := manyK_bounds c k hL
              clear ho1
              have hd : decide ((k : Int) < 4) = true := decide_eq_true (by omega)
              go_wp2_with fail
              go_loopw [3, 8] (fun v s wr => ∃ i : Nat, s = .int .i64 i ∧ (i : Int) ≤ manyK c k ∧ AllR W B c (b0 + (offK c k + i)) v wr ∧ Row wr gm 3 4 (ints (manyK c))) (fun _ s _ => 40 - (intOf s).toNat)
              case atStart => exact ⟨0, rfl, by omega, ⟨hown, hbr⟩, hmr⟩
              case round =>
                obtain ⟨i, rfl, hi, ⟨hown, hbr⟩, hmr⟩ := hrel
                have fk : wr.cell? ⟨gm, k, none⟩ = some (.int .i64 (manyK c k)) := hmr.cell (i := k) hlt
                have q0 : (0 : Int) ≤ (k : Int) := by omega
                have q1 : (k : Int) < 4 := by omega
                by_cases hli : (i : Int) < manyK c k
                · have HK := Lib.hid (kind_many c k i hlt hli)
                  generalize manyK c k = mk at *
                  generalize offK c k = ok at *
                  go_wp2_with (at_builtin; refine wpList_append_own _ rfl _ _ 38 rfl B 41 i0 (.agg #[.int .i64 0, .int .i64 0, .int .i64 0, .int .i64 0]) 4 32 Try.underlying38 hi0 hz0 hz1 hz2 rfl (by decide) _ _ _ rfl (hown.alloc _) ⟨wr.heap.size, 0, none⟩ 1 1 [.int .i64 (m : Int), .int .i64 (4 + (k : Int)), .int .i64 (i : Int), .int .i64 0] rfl rfl ?c1 ?c2 ?c3 ?c4 ?c5 ?_)
                  case c1 =>
                    intro j u hj
                    match j, hj with
                    | 0, hj => simp at hj; subst hj; simp [Addr.add]
                    | 1, hj => simp at hj; subst hj; simp [Addr.add]
                    | 2, hj => simp at hj; subst hj; simp [Addr.add]
                    | 3, hj => simp at hj; subst hj; simp [Addr.add]
                  case c2 => intro u hu; simp at hu; rcases hu with rfl | rfl | rfl | rfl <;> rfl
                  case c3 => unfold maxLen; omega
                  case c4 => omega
                  case c5 => have := hbr.size; simp; omega
                  intro v' w1 hown' hgrow _
                  have hbn : Below B W w1 := (hbr.alloc (by have := hbr.size; omega) _).grown hgrow (by have := hbr.size; simp; omega) (fun g hg => (hown.lt g hg).1)
                  have hmn : Row w1 gm 3 4 (ints (manyK c)) := (hmr.alloc _).grown hgrow (own_row_ne hown hmr (by decide))
                  clear hgrow hown
                  go_wp2_with fail
                  go_roundw
                  case rel => exact ⟨i + 1, by go_num, by omega, by unfold AllR; rw [show b0 + (ok + (i + 1)) = b0 + (ok + i) + 1 by omega, HN.out (ok + i) (by rw [HP.out]; omega) _ rfl (4 + (k : Int)) i 0 (by rw [HK.out]; simp) (by rw [HK.out]) (by rw [HK.out]; rfl)]; exact ⟨hown', hbn⟩, hmn⟩
                  case measure => simp [intOf]; omega
                · have hie : (manyK c k).toNat = i := by omega
                  go_wp2_with fail
                  go_roundw
                  case rel => exact ⟨k + 1, by go_num, by omega, by rw [HO.out, hie]; exact ⟨hown, hbr⟩, hmr⟩
                  case measure => simp [intOf]; omega
            · obtain rfl : k = 4 := by omega
              rw [show ((4 : Nat) : Int) = 4 from rfl]
              clear hmr
              go_wp2_with fail
              go_loopw [3, 9] (fun v s wr => ∃ s' : Nat, s = .int .i64 s' ∧ 1 ≤ s' ∧ (s' : Int) ≤ c 10 + 1 ∧ AllR W B c (b0 + (18 + (c 11).toNat + (s' - 1))) v wr) (fun _ s _ => 62 - (intOf s).toNat)
              case atStart => exact ⟨1, rfl, by omega, by omega, hown, hbr⟩
              case round =>
                obtain ⟨s, rfl, hs, hs2, hown, hbr⟩ := hrel
                obtain ⟨f0, f10, f11⟩ := HC.out _ hbr
                by_cases hls : (s : Int) ≤ c 10
                · have HK := Lib.hid (kind_link c (s - 1) (by omega))
                  go_wp2_with (at_builtin; refine wpList_append_own _ rfl _ _ 38 rfl B 41 i0 (.agg #[.int .i64 0, .int .i64 0, .int .i64 0, .int .i64 0]) 4 32 Try.underlying38 hi0 hz0 hz1 hz2 rfl (by decide) _ _ _ rfl (hown.alloc _) ⟨wr.heap.size, 0, none⟩ 1 1 [.int .i64 (m : Int), .int .i64 8, .int .i64 (s : Int), .int .i64 0] rfl rfl ?c1 ?c2 ?c3 ?c4 ?c5 ?_)
                  case c1 =>
                    intro j u hj
                    match j, hj with
                    | 0, hj => simp at hj; subst hj; simp [Addr.add]
                    | 1, hj => simp at hj; subst hj; simp [Addr.add]
                    | 2, hj => simp at hj; subst hj; simp [Addr.add]
                    | 3, hj => simp at hj; subst hj; simp [Addr.add]
                  case c2 => intro u hu; simp at hu; rcases hu with rfl | rfl | rfl | rfl <;> rfl
                  case c3 => unfold maxLen; omega
                  case c4 => omega
                  case c5 => have := hbr.size; simp; omega
                  intro v' w1 hown' hgrow _
                  have hbn : Below B W w1 := (hbr.alloc (by have := hbr.size; omega) _).grown hgrow (by have := hbr.size; simp; omega) (fun g hg => (hown.lt g hg).1)
                  clear hgrow hown
                  go_wp2_with fail
                  go_roundw
                  case rel => exact ⟨s + 1, by go_num, by omega, by omega, by unfold AllR; rw [show b0 + (18 + (c 11).toNat + (s + 1 - 1)) = b0 + (18 + (c 11).toNat + (s - 1)) + 1 by omega, HN.out (18 + (c 11).toNat + (s - 1)) (by rw [HP.out]; omega) _ rfl 8 s 0 (by rw [HK.out]; rfl) (by rw [HK.out]; simp; omega) (by rw [HK.out]; rfl)]; exact ⟨hown', hbn⟩⟩
                  case measure => simp [intOf]; omega
                · have hse : s - 1 = (c 10).toNat := by omega
                  rw [hse] at hown
                  clear hse
                  go_wp2_with fail
                  clear f0 f10 f11 hls hs hs2
                  go_loopw [3, 10] (fun v s wr => ∃ s' : Nat, s = .int .i64 s' ∧ 1 ≤ s' ∧ (s' : Int) ≤ c 10 + 1 ∧ AllR W B c (b0 + (18 + (c 11).toNat + (c 10).toNat + 5 * (s' - 1))) v wr) (fun _ s _ => 62 - (intOf s).toNat)
                  case atStart => exact ⟨1, rfl, by omega, by omega, hown, hbr⟩
                  case round =>
                    obtain ⟨s, rfl, hs, hs2, hown, hbr⟩ := hrel
                    obtain ⟨f0, f10, f11⟩ := HC.out _ hbr
                    by_cases hls : (s : Int) ≤ c 10
                    · go_wp2_with fail
                      clear f0 f10 f11
                      go_loopw [3, 11] (fun v s4 wr => ∃ j : Nat, s4 = .int .i64 j ∧ j ≤ 5 ∧ AllR W B c (b0 + (18 + (c 11).toNat + (c 10).toNat + 5 * (s - 1) + j)) v wr) (fun _ s _ => 5 - (intOf s).toNat)
                      case atStart => exact ⟨0, rfl, by omega, hown, hbr⟩
                      case round =>
                        obtain ⟨j, rfl, hj, hown, hbr⟩ := hrel
                        by_cases hlj : j < 5
                        · have HK := Lib.hid (kind_node c (s - 1) j hlj)
                          go_wp2_with (at_builtin; refine wpList_append_own _ rfl _ _ 38 rfl B 41 i0 (.agg #[.int .i64 0, .int .i64 0, .int .i64 0, .int .i64 0]) 4 32 Try.underlying38 hi0 hz0 hz1 hz2 rfl (by decide) _ _ _ rfl (hown.alloc _) ⟨wr.heap.size, 0, none⟩ 1 1 [.int .i64 (m : Int), .int .i64 9, .int .i64 (s : Int), .int .i64 (j : Int)] rfl rfl ?c1 ?c2 ?c3 ?c4 ?c5 ?_)
                          case c1 =>
                            intro j u hj
                            match j, hj with
                            | 0, hj => simp at hj; subst hj; simp [Addr.add]
                            | 1, hj => simp at hj; subst hj; simp [Addr.add]
                            | 2, hj => simp at hj; subst hj; simp [Addr.add]
                            | 3, hj => simp at hj; subst hj; simp [Addr.add]
                          case c2 => intro u hu; simp at hu; rcases hu with rfl | rfl | rfl | rfl <;> rfl
                          case c3 => unfold maxLen; omega
                          case c4 => omega
                          case c5 => have := hbr.size; simp; omega
                          intro v' w1 hown' hgrow _
                          have hbn : Below B W w1 := (hbr.alloc (by have := hbr.size; omega) _).grown hgrow (by have := hbr.size; simp; omega) (fun g hg => (hown.lt g hg).1)
                          clear hgrow hown
                          go_wp2_with fail
                          go_roundw
                          case rel => exact ⟨j + 1, by go_num, by omega, by unfold AllR; rw [show b0 + (18 + (c 11).toNat + (c 10).toNat + 5 * (s - 1) + (j + 1)) = b0 + (18 + (c 11).toNat + (c 10).toNat + 5 * (s - 1) + j) + 1 by omega, HN.out (18 + (c 11).toNat + (c 10).toNat + 5 * (s - 1) + j) (by rw [HP.out]; omega) _ rfl 9 s j (by rw [HK.out]; rfl) (by rw [HK.out]; simp; omega) (by rw [HK.out])]; exact ⟨hown', hbn⟩⟩
                          case measure => simp [intOf]; omega
                        · obtain rfl : j = 5 := by omega
                          go_wp2_with fail
                          go_roundw
                          case rel => exact ⟨s + 1, by go_num, by omega, by omega, by rw [show b0 + (18 + (c 11).toNat + (c 10).toNat + 5 * (s + 1 - 1)) = b0 + (18 + (c 11).toNat + (c 10).toNat + 5 * (s - 1) + 5) by omega]; exact ⟨hown, hbr⟩⟩
                          case measure => simp [intOf]; omega
                    · have hse : s - 1 = (c 10).toNat := by omega
                      rw [hse] at hown
                      clear hse
                      go_wp2_with fail
                      go_roundw
                      case rel => exact ⟨m + 1, by go_num, by omega, by rw [HE.out, HP.out, show b0 + (18 + (c 11).toNat + 6 * (c 10).toNat) = b0 + (18 + (c 11).toNat + (c 10).toNat + 5 * (c 10).toNat) by omega]; exact ⟨hown, hbr⟩⟩
                      case measure => simp [intOf]; omega
    · have hme : (c 0).toNat = m := by omega
      go_wp2_with fail
      go_ret
      exact ⟨_, rfl, by rw [HZ.out, ← HB1.out]; exact hown, by rw [HZ.out]; exact below_on hB (Nat.le_of_eq HZ.out.symm) (by rw [HBB.out]; exact hbr)⟩
end Go.Proofs.Ytncemjpfdblecaa
