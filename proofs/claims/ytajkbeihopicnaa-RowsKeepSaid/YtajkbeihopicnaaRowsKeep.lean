/- The walk of RowsKeep. -/
import Derived.Test.YtajkbeihopicnaaRowsTurn
import Derived.Test.YtajkbeihopicnaaRowFacts
import Derived.Deep.RegionHeld3
namespace Go.Proofs.Ytajkbeihopicnaa
open Go.ChangeShapes Go.WideShapes Go.ChangeAt Go.RowKit Go.Shelf

theorem rowsKeep_long (A : Option Addr) (c : Nat) (L : List Rw) (hL : 100 < L.length) (hM : L.length ≤ 9223372036854775807) (key : Int) (w : World) :
    Calls Try.prog 5 #[.slice A L.length c, .int .i64 key] w fun e w' => e = .returned (.bool true) ∧ Below w.heap.size w w' := by
  have C9 := Lib.hid fun W => lives10_any W
  generalize hm : L.length = m at *
  go_enter Try.func5, Try.ntmps5
  go_wp2_with (go_at_call 6; refine (C9.out _).mono ?_; rintro e w' ⟨rfl, hb⟩)
  all_goals first
    | (exfalso; omega)
    | (go_ret; exact ⟨rfl, hb⟩)

theorem drewB {w w' : World} (h : Drew w w') : Below w.heap.size w w' := h.below _
theorem put_told {L : List Rw} (hL : L.length ≤ 1000 * 1000 - 1) (x : Rw) (v : Value) (w : World) (h : Told w v L) : Calls Try.prog 7 #[v, .agg #[.int .i64 x.k, .int .u64 (x.a : Nat), .int .u64 (x.b : Nat)]] w fun e w' => ∃ u, e = .returned (.tuple #[u, .bool (!isAt L x.k)]) ∧ Told w' u (putL L x) ∧ Below w.heap.size w w' := by
  obtain ⟨A, c, rfl, h⟩ := h
  exact rPut_any A c L hL x w h
theorem drop_told {L : List Rw} (hL : L.length ≤ 1000 * 1000 - 1) (key : Int) (v : Value) (w : World) (h : Told w v L) : Calls Try.prog 9 #[v, .int .i64 key] w fun e w' => ∃ u, e = .returned (.tuple #[u, .agg #[.int .i64 (dropX L key).k, .int .u64 ((dropX L key).a : Nat), .int .u64 ((dropX L key).b : Nat)], .bool (isAt L key)]) ∧ Told w' u (dropL L key) ∧ Below w.heap.size w w' := by
  obtain ⟨A, c, rfl, h⟩ := h
  exact rDrop_any A c L hL key w h
theorem at_told {L : List Rw} (hL : L.length ≤ 1000000) (key : Int) (v : Value) (w : World) (h : Told w v L) : Calls Try.prog 11 #[v, .int .i64 key] w fun e w' => e = .returned (.tuple #[.int .i64 (findN L key), .bool (isAt L key)]) ∧ Below w.heap.size w w' := by
  obtain ⟨A, c, rfl, h⟩ := h
  exact rAt_any A c L hL key w h
theorem rises_told {L : List Rw} (hL : L.length ≤ 1000000) (v : Value) (w : World) (h : Told w v L) : Calls Try.prog 14 #[v] w fun e w' => e = .returned (.bool (rises L)) ∧ Drew w w' := by
  obtain ⟨A, c, rfl, h⟩ := h
  exact rRises_any A c L hL w h
theorem sameR_told {L : List Rw} (hL : L.length ≤ 1000000) (v u : Value) (w : World) (hv : Told w v L) (hu : Told w u L) : Calls Try.prog 17 #[v, u] w fun e w' => e = .returned (.bool true) ∧ Drew w w' := by
  obtain ⟨A1, c1, rfl, l1⟩ := hv
  obtain ⟨A2, c2, rfl, l2⟩ := hu
  have h := rSame_any A1 A2 c1 c2 L L hL hL w l1 l2
  rw [decide_eq_true rfl] at h
  exact h

/-- What the law's last test reads. -/
structure KeepS (B : Nat) (w : World) (K : List Rw) (ub : Value) (b off g f : Nat) (x : Rw) (w' : World) : Prop where
  bel : Below B w w'
  all : Lies w' (some ⟨b, off, none⟩) K
  back : Told w' ub K
  box : Box3 w' g x
  lt : b < w'.heap.size
  p0 : w'.cell? ⟨b, off + f * 3, none⟩ = some (.int .i64 x.k)
  p1 : w'.cell? ⟨b, off + f * 3 + 1, none⟩ = some (.int .u64 (x.a : Nat))
  p2 : w'.cell? ⟨b, off + f * 3 + 2, none⟩ = some (.int .u64 (x.b : Nat))
theorem KeepS.keep {B : Nat} {w : World} {K : List Rw} {ub : Value} {b off g f : Nat} {x : Rw} {w1 w2 : World} (h : KeepS B w K ub b off g f x w1) (hb : Below w1.heap.size w1 w2) (hs : B ≤ w1.heap.size) : KeepS B w K ub b off g f x w2 :=
  ⟨h.bel.trans (hb.mono hs), h.all.keep hb, h.back.keep hb, (hb.block g h.box.lt).trans h.box, Nat.lt_of_lt_of_le h.lt hb.size, (hb.cell (p := ⟨b, off + f * 3, none⟩) h.lt).trans h.p0, (hb.cell (p := ⟨b, off + f * 3 + 1, none⟩) h.lt).trans h.p1, (hb.cell (p := ⟨b, off + f * 3 + 2, none⟩) h.lt).trans h.p2⟩

set_option maxHeartbeats 4000000 in
set_option maxRecDepth 100000 in
theorem rowsKeep_short (A : Option Addr) (c : Nat) (L : List Rw) (hL : L.length ≤ 100) (key : Int) (w : World) (hl : Lies w A L) :
    Calls Try.prog 5 #[.slice A L.length c, .int .i64 key] w fun e w' => e = .returned (.bool true) ∧ Below w.heap.size w w' := by
  have C9 := Lib.hid fun W => lives10_any W
  have C1 := Lib.hid (fun k (hk : k ≤ L.length) x v W h => put_told (L := keepL L k) (by have := keepL_len L k; omega) x v W h)
  have C2 := Lib.hid (fun k (hk : k ≤ L.length) key v W h => at_told (L := keepL L k) (by have := keepL_len L k; omega) key v W h)
  have HL := Lib.hid hl; clear hl
  generalize hm : L.length = m at *
  have HM := Lib.hid hm; clear hm
  go_enter Try.func5, Try.ntmps5
  go_wp2_with fail
  go_loopw [5, 6] (fun v i wr => ∃ k : Nat, k ≤ m ∧ i = .int .i64 (k : Nat) ∧ Told wr v (keepL L k) ∧ Below w.heap.size w wr) (fun _ i _ => m - (intOf i).toNat)
  case atStart => exact ⟨0, Nat.zero_le _, rfl, ⟨none, 0, rfl, .inl rfl⟩, Below.refl _ _⟩
  case round =>
    obtain ⟨k, hk, rfl, hT, hB⟩ := hrel
    by_cases hlt : k < m
    · obtain ⟨b1, off1, rfl, hb1, x1⟩ := (HL.out).at_ (by rw [HM.out]; omega)
      obtain ⟨p0, p1, p2⟩ := x1 k (by rw [HM.out]; omega)
      have q0 := (hB.cell (p := ⟨b1, off1 + k * 3, none⟩) hb1).trans p0
      have q1 := (hB.cell (p := ⟨b1, off1 + k * 3 + 1, none⟩) hb1).trans p1
      have q2 := (hB.cell (p := ⟨b1, off1 + k * 3 + 2, none⟩) hb1).trans p2
      clear x1
      have c1 := C1.out k hk (nth L k) _ wr hT
      have HK : Hid (putL (keepL L k) (nth L k) = keepL L (k + 1)) := Lib.hid rfl
      rw [HK.out] at c1
      have C1' := Lib.hid c1; clear c1
      have HT := Lib.hid hT; have HB := Lib.hid hB; clear hT hB HK
      have HP := Lib.hid p0; clear p0 p1 p2
      have C2' := Lib.hid (C2.out k hk (nth L k).k)
      generalize isAt (keepL L k) (nth L k).k = ia at *
      generalize findN (keepL L k) (nth L k).k = fk at *
      generalize hx1 : (nth L k).k = y1 at *
      generalize hx2 : (nth L k).a = y2 at *
      generalize hx3 : (nth L k).b = y3 at *
      clear hx1 hx2 hx3
      have hne : ((!ia) == ia) = false := by cases ia <;> rfl
      go_wp2_with (first
        | (go_at_call 7
           refine C1'.out.mono ?_
           rintro e w2 ⟨u, rfl, ht2, hb2⟩
           have HB2 := Lib.hid (HB.out.trans (hb2.mono HB.out.size))
           have HT2 := Lib.hid (HT.out.keep hb2)
           have HU := Lib.hid ht2
           have r0 := (HB2.out.cell (p := ⟨b1, off1 + k * 3, none⟩) hb1).trans HP.out
           clear ht2 hb2 q0 q1 q2)
        | (go_at_call 11
           refine (C2'.out _ _ HT2.out).mono ?_
           rintro e w3 ⟨rfl, hb3⟩
           have HB3 := Lib.hid (HB2.out.trans (hb3.mono HB2.out.size))
           have HU3 := Lib.hid (HU.out.keep hb3); clear hb3 r0))
      go_roundw
      case rel => exact ⟨k + 1, by omega, by go_num, HU3.out, HB3.out⟩
      case measure => simp [intOf]; omega
    · obtain rfl : k = m := by omega
      obtain ⟨K, hK⟩ : ∃ K, keepL L k = K := ⟨_, rfl⟩
      have hinc : Inc K := by rw [← hK]; exact keepL_inc L k
      have hlen : K.length ≤ 100 := by rw [← hK]; have := keepL_len L k; omega
      rw [hK] at hT
      clear C1 C2 hK
      have R1 := Lib.hid (fun v W h => drop_told (L := K) (by omega) key v W h)
      have R2 := Lib.hid (fun v W h => at_told (L := K) (by omega) key v W h)
      have R3 := Lib.hid (fun v W h => rises_told (L := K) (by omega) v W h)
      have R4 := Lib.hid (fun v W h => rises_told (L := dropL K key) (by have := dropL_length K key; omega) v W h)
      rw [rises_inc hinc] at R3
      rw [rises_inc (inc_drop hinc key)] at R4
      have HT := Lib.hid hT; have HB := Lib.hid hB; clear hT hB
      cases hia : isAt K key with
      | false =>
        rw [hia] at R1 R2
        have hdn : dropL K key = K := dropL_no hia
        rw [hdn] at R1 R4
        have R5 := Lib.hid (fun v u W h1 h2 => sameR_told (L := K) (by omega) v u W h1 h2)
        generalize dropX K key = dx at *
        generalize findN K key = fk at *
        clear hdn hia hinc hlen
        go_wp2_with (first
          | (go_at_call 9
             refine (R1.out _ _ HT.out).mono ?_
             rintro e w2 ⟨u, rfl, ht2, hb2⟩
             have HB2 := Lib.hid (HB.out.trans (hb2.mono HB.out.size))
             have HT2 := Lib.hid (HT.out.keep hb2)
             have HU := Lib.hid ht2; clear ht2 hb2)
          | (go_at_call 11
             have hb3 : Below w2.heap.size w2 (w2.alloc (.cells #[.int .i64 dx.k, .int .u64 (dx.a : Nat), .int .u64 (dx.b : Nat)] 27)) := (Below.refl _ _).alloc (Nat.le_refl _) _
             refine (R2.out _ _ (HT2.out.keep hb3)).mono ?_
             rintro e w3 ⟨rfl, hb4⟩
             have HB3 := Lib.hid ((HB2.out.trans (hb3.mono HB2.out.size)).trans (hb4.mono (by have := HB2.out.size; simp; omega)))
             have HT3 := Lib.hid ((HT2.out.keep hb3).keep hb4)
             have HU3 := Lib.hid ((HU.out.keep hb3).keep hb4); clear hb3 hb4)
          | (go_at_call 14
             with_reducible refine (R3.out _ _ HT3.out).mono ?_
             rintro e w4 ⟨rfl, hd⟩
             have hb := hd.below w3.heap.size
             have HB4 := Lib.hid (HB3.out.trans (hb.mono HB3.out.size))
             have HT4 := Lib.hid (HT3.out.keep hb)
             have HU4 := Lib.hid (HU3.out.keep hb); clear hd hb)
          | (go_at_call 14
             with_reducible refine (R4.out _ _ HU4.out).mono ?_
             rintro e w5 ⟨rfl, hd⟩
             have hb := hd.below w4.heap.size
             have HB5 := Lib.hid (HB4.out.trans (hb.mono HB4.out.size))
             have HT5 := Lib.hid (HT4.out.keep hb)
             have HU5 := Lib.hid (HU4.out.keep hb); clear hd hb)
          | (go_at_call 17
             refine (R5.out _ _ _ HU5.out HT5.out).mono ?_
             rintro e w6 ⟨rfl, hd⟩
             have HB6 := Lib.hid (HB5.out.trans (hd.below _)); clear hd)
          | (go_at_call 6
             refine (C9.out _).mono ?_
             rintro e w7 ⟨rfl, hb⟩
             have HB7 := Lib.hid (HB6.out.trans (hb.mono HB6.out.size)); clear hb))
        go_ret
        exact ⟨rfl, HB7.out⟩
      | true =>
        rw [hia] at R1 R2
        obtain ⟨f1, f2, f3, f4, f5⟩ := drop_back hinc hia
        have hdx : dropX K key = nth K (findN K key) := by unfold dropX; rw [hia]; rfl
        have R6 := Lib.hid (fun v W h => at_told (L := dropL K key) (by omega) key v W h)
        have R7 := Lib.hid (fun v W h => put_told (L := dropL K key) (by omega) (nth K (findN K key)) v W h)
        have R5 := Lib.hid (fun v u W h1 h2 => sameR_told (L := K) (by omega) v u W h1 h2)
        have hqx := fun W => eql_rw W (nth K (findN K key)) (nth K (findN K key))
        rw [f1] at R6
        rw [f5, f1, f2] at R7
        rw [hdx, f5] at R1
        rw [decide_eq_true rfl, f5] at hqx
        generalize hxx : nth K (findN K key) = x at *
        have HX : Hid (nth K (findN K key) = ⟨key, x.a, x.b⟩) := Lib.hid (by rw [hxx, ← f5])
        generalize x.a = xa at *
        generalize x.b = xb at *
        clear f2 hdx f5 hxx
        generalize findN K key = fk at *
        generalize findN (dropL K key) key = fd at *
        obtain ⟨j, hj⟩ : ∃ j, K.length = j + 1 := ⟨K.length - 1, by omega⟩
        have f6 : (dropL K key).length = j := by omega
        have hfj : fk < j + 1 := by omega
        have hjl : j ≤ 100 := by omega
        obtain ⟨A1, c1, e1, l1⟩ := HT.out
        subst e1
        rw [hj] at HT ⊢
        have HJ := Lib.hid (And.intro hj f6)
        have HLK := Lib.hid l1
        clear hia hinc hlen f1 f3 f4 hj f6 l1
        go_upto_region 18 with (first
          | (go_at_call 9
             refine (R1.out _ _ HT.out).mono ?_
             rintro e w2 ⟨u, rfl, ht2, hb2⟩
             obtain ⟨A2, c2, rfl, l2⟩ := ht2
             rw [HJ.out.2]
             have HB2 := Lib.hid (HB.out.trans (hb2.mono HB.out.size))
             have HT2 := Lib.hid (HLK.out.keep hb2)
             have HU := Lib.hid l2; clear l2 hb2)
          | (go_at_call 11
             have hb3 : Below w2.heap.size w2 (w2.alloc (.cells #[.int .i64 key, .int .u64 (xa : Nat), .int .u64 (xb : Nat)] 27)) := (Below.refl _ _).alloc (Nat.le_refl _) _
             refine (R2.out _ _ (told_lies HJ.out.1 (HT2.out.keep hb3))).mono ?_
             rintro e w3 ⟨rfl, hb4⟩
             have HBX : Hid (Box3 w3 w2.heap.size ⟨key, xa, xb⟩) := Lib.hid ((hb4.block w2.heap.size (by simp)).trans (Box3.new w2 ⟨key, xa, xb⟩))
             have HB3 := Lib.hid ((HB2.out.trans (hb3.mono HB2.out.size)).trans (hb4.mono (by have := HB2.out.size; simp; omega)))
             have HT3 := Lib.hid ((HT2.out.keep hb3).keep hb4)
             have HU3 := Lib.hid ((HU.out.keep hb3).keep hb4); clear hb3 hb4)
          | (go_at_call 14
             with_reducible refine (R3.out _ _ (told_lies HJ.out.1 HT3.out)).mono ?_
             rintro e w4 ⟨rfl, hd⟩
             have hb := hd.below w3.heap.size
             have HB4 := Lib.hid (HB3.out.trans (hb.mono HB3.out.size))
             have HBX4 : Hid (Box3 w4 w2.heap.size ⟨key, xa, xb⟩) := Lib.hid ((hb.block w2.heap.size HBX.out.lt).trans HBX.out)
             have HT4 := Lib.hid (HT3.out.keep hb)
             have HU4 := Lib.hid (HU3.out.keep hb); clear hd hb)
          | (go_at_call 14
             with_reducible refine (R4.out _ _ (told_lies HJ.out.2 HU4.out)).mono ?_
             rintro e w5 ⟨rfl, hd⟩
             have hb := hd.below w4.heap.size
             have HB5 := Lib.hid (HB4.out.trans (hb.mono HB4.out.size))
             have HBX5 : Hid (Box3 w5 w2.heap.size ⟨key, xa, xb⟩) := Lib.hid ((hb.block w2.heap.size HBX4.out.lt).trans HBX4.out)
             have HT5 := Lib.hid (HT4.out.keep hb)
             have HU5 := Lib.hid (HU4.out.keep hb); clear hd hb))
        go_upto_region 20 with (first
          | (go_at_call 11
             refine (R6.out _ _ (told_lies HJ.out.2 HU5.out)).mono ?_
             rintro e w6 ⟨rfl, hb⟩
             have HB6 := Lib.hid (HB5.out.trans (hb.mono HB5.out.size))
             have HBX6 : Hid (Box3 w6 w2.heap.size ⟨key, xa, xb⟩) := Lib.hid ((hb.block w2.heap.size HBX5.out.lt).trans HBX5.out)
             have HT6 := Lib.hid (HT5.out.keep hb)
             have HU6 := Lib.hid (HU5.out.keep hb)
             have k0 := HBX6.out.cell0
             have k1 := HBX6.out.cell1
             have k2 := HBX6.out.cell2; clear hb)
          | (go_at_call 7
             refine (R7.out _ _ (told_lies HJ.out.2 HU6.out)).mono ?_
             rintro e w7 ⟨ub, rfl, ht7, hb⟩
             have HB7 := Lib.hid (HB6.out.trans (hb.mono HB6.out.size))
             have HBX7 : Hid (Box3 w7 w2.heap.size ⟨key, xa, xb⟩) := Lib.hid ((hb.block w2.heap.size HBX6.out.lt).trans HBX6.out)
             have HT7 := Lib.hid (HT6.out.keep hb)
             have HV7 := Lib.hid ht7; clear hb ht7 k0 k1 k2))
        obtain ⟨b, off, rfl, hbl, hx⟩ := HT7.out.at_ (by rw [HJ.out.1]; omega)
        obtain ⟨p0, p1, p2⟩ := hx fk (by rw [HJ.out.1]; exact hfj)
        rw [HX.out] at p0 p1 p2
        have HS : Hid (KeepS w.heap.size w K ub b off w2.heap.size fk ⟨key, xa, xb⟩ w7) := Lib.hid ⟨HB7.out, HT7.out, HV7.out, HBX7.out, hbl, p0, p1, p2⟩
        generalize hh2 : w2.heap.size = g2 at *
        generalize hh1 : w.heap.size = a1 at *
        have hst : ∀ w' : World, KeepS a1 w K ub b off g2 fk ⟨key, xa, xb⟩ w' → KeepS a1 w K ub b off g2 fk ⟨key, xa, xb⟩ w' ∧ w'.cell? ⟨b, off + fk * 3, none⟩ = some (.int .i64 key) ∧ w'.cell? ⟨b, off + fk * 3 + 1, none⟩ = some (.int .u64 (xa : Nat)) ∧ w'.cell? ⟨b, off + fk * 3 + 2, none⟩ = some (.int .u64 (xb : Nat)) ∧ w'.cell? ⟨g2, 0, none⟩ = some (.int .i64 key) ∧ w'.cell? ⟨g2, 1, none⟩ = some (.int .u64 (xa : Nat)) ∧ w'.cell? ⟨g2, 2, none⟩ = some (.int .u64 (xb : Nat)) := fun w' h => ⟨h, h.p0, h.p1, h.p2, h.box.cell0, h.box.cell1, h.box.cell2⟩
        have hkeep : ∀ w1 w3 : World, Below w1.heap.size w1 w3 → (fun w' : World => KeepS a1 w K ub b off g2 fk ⟨key, xa, xb⟩ w' ∧ w'.cell? ⟨b, off + fk * 3, none⟩ = some (.int .i64 key) ∧ w'.cell? ⟨b, off + fk * 3 + 1, none⟩ = some (.int .u64 (xa : Nat)) ∧ w'.cell? ⟨b, off + fk * 3 + 2, none⟩ = some (.int .u64 (xb : Nat)) ∧ w'.cell? ⟨g2, 0, none⟩ = some (.int .i64 key) ∧ w'.cell? ⟨g2, 1, none⟩ = some (.int .u64 (xa : Nat)) ∧ w'.cell? ⟨g2, 2, none⟩ = some (.int .u64 (xb : Nat))) w1 → (fun w' : World => KeepS a1 w K ub b off g2 fk ⟨key, xa, xb⟩ w' ∧ w'.cell? ⟨b, off + fk * 3, none⟩ = some (.int .i64 key) ∧ w'.cell? ⟨b, off + fk * 3 + 1, none⟩ = some (.int .u64 (xa : Nat)) ∧ w'.cell? ⟨b, off + fk * 3 + 2, none⟩ = some (.int .u64 (xb : Nat)) ∧ w'.cell? ⟨g2, 0, none⟩ = some (.int .i64 key) ∧ w'.cell? ⟨g2, 1, none⟩ = some (.int .u64 (xa : Nat)) ∧ w'.cell? ⟨g2, 2, none⟩ = some (.int .u64 (xb : Nat))) w3 := fun w1 w3 hb h => hst w3 (h.1.keep hb (by have := h.1.bel.size; omega))
        have HST := Lib.hid (hst w7.drew (HS.out.keep ((Below.refl _ w7).drew) (by have := HS.out.bel.size; omega)))
        have HBB : Hid (∀ w', (fun w' : World => KeepS a1 w K ub b off g2 fk ⟨key, xa, xb⟩ w' ∧ w'.cell? ⟨b, off + fk * 3, none⟩ = some (.int .i64 key) ∧ w'.cell? ⟨b, off + fk * 3 + 1, none⟩ = some (.int .u64 (xa : Nat)) ∧ w'.cell? ⟨b, off + fk * 3 + 2, none⟩ = some (.int .u64 (xb : Nat)) ∧ w'.cell? ⟨g2, 0, none⟩ = some (.int .i64 key) ∧ w'.cell? ⟨g2, 1, none⟩ = some (.int .u64 (xa : Nat)) ∧ w'.cell? ⟨g2, 2, none⟩ = some (.int .u64 (xb : Nat))) w' → Below a1 w w') := Lib.hid (fun w' h => h.1.bel)
        have HH := Lib.hid hh1
        have hw1 : IntKind.i64.wrap (((j + 1 : Nat) : Int) - 1) = (j : Int) := by rw [IntKind.wrap_i64]; omega
        have hw2 : IntKind.i64.wrap ((j : Int) + 1 - 1) = (j : Int) := by rw [IntKind.wrap_i64]; omega
        have hc1 : decide ((fk : Int) < ((j + 1 : Nat) : Int)) = true := decide_eq_true (by omega)
        have hc2 : decide ((fk : Int) < (j : Int) + 1) = true := decide_eq_true (by omega)
        have hc3 : ((j : Int) == (j : Int)) = true := by simp
        have hfj2 : fk ≤ j := by omega
        have hw3 : IntKind.i64.wrap (j : Int) = (j : Int) := by rw [IntKind.wrap_i64]; omega
        have hfj3 : (fk : Int) < (j : Int) + 1 := by omega
        clear p0 p1 p2 hx HB HB2 HB3 HB4 HB5 HB6 HB7 HT HT2 HT3 HT4 HT5 HT6 HT7 HU HU3 HU4 HU5 HU6 HBX HBX4 HBX5 HBX6 HBX7 R1 R2 R3 R4 R6 R7 HS hst hh1 hh2 HV7
        refine wp_region_noPanic ?_
        refine wp_region_held_drew (S := fun w' => KeepS a1 w K ub b off g2 fk ⟨key, xa, xb⟩ w' ∧ w'.cell? ⟨b, off + fk * 3, none⟩ = some (.int .i64 key) ∧ w'.cell? ⟨b, off + fk * 3 + 1, none⟩ = some (.int .u64 (xa : Nat)) ∧ w'.cell? ⟨b, off + fk * 3 + 2, none⟩ = some (.int .u64 (xb : Nat)) ∧ w'.cell? ⟨g2, 0, none⟩ = some (.int .i64 key) ∧ w'.cell? ⟨g2, 1, none⟩ = some (.int .u64 (xa : Nat)) ∧ w'.cell? ⟨g2, 2, none⟩ = some (.int .u64 (xb : Nat))) (by kernel_rfl) (HST.out) (fun hHeld => ?_)
        (refine wpAnyH_take (i := 0) (v := ?_) rfl (by kernel_rfl) (by kernel_rfl) (by kernel_rfl) (fun _ _ _ h => h) (Or.inl ⟨by rfl, ?_⟩) hHeld ?_; rotate_left; focus (intro w hSw; (try dsimp only at hSw); go_simp; (try with_reducible rfl)))
        try simp only [Act.put, List.getElem_toArray, List.getElem_cons_succ, List.getElem_cons_zero, List.setIfInBounds_toArray, List.set_cons_zero, List.set_cons_succ]
        (refine wpAnyH_take (i := 1) (v := ?_) rfl (by kernel_rfl) (by kernel_rfl) (by kernel_rfl) (fun _ _ _ h => h) (Or.inl ⟨by rfl, ?_⟩) hHeld ?_; rotate_left; focus (intro w hSw; (try dsimp only at hSw); go_simp; (try with_reducible rfl)))
        try simp only [Act.put, List.getElem_toArray, List.getElem_cons_succ, List.getElem_cons_zero, List.setIfInBounds_toArray, List.set_cons_zero, List.set_cons_succ]
        (refine wpAnyH_take (i := 2) (v := ?_) rfl (by kernel_rfl) (by kernel_rfl) (by kernel_rfl) (fun _ _ _ h => h) (Or.inl ⟨by rfl, ?_⟩) hHeld ?_; rotate_left; focus (intro w hSw; (try dsimp only at hSw); go_simp; (try with_reducible rfl)))
        try simp only [Act.put, List.getElem_toArray, List.getElem_cons_succ, List.getElem_cons_zero, List.setIfInBounds_toArray, List.set_cons_zero, List.set_cons_succ]
        first | (refine wpAnyH_take (i := 3) rfl (by kernel_rfl) (by kernel_rfl) (by kernel_rfl) (fun _ _ _ h => h) (Or.inr ⟨by rfl, rfl⟩) hHeld ?_) | (refine wpAnyH_take (i := 3) (v := ?_) rfl (by kernel_rfl) (by kernel_rfl) (by kernel_rfl) (fun _ _ _ h => h) (Or.inl ⟨by rfl, ?_⟩) hHeld ?_; rotate_left; focus (intro w hSw; (try dsimp only at hSw); go_simp; (try with_reducible rfl)))
        try simp only [Act.put, List.getElem_toArray, List.getElem_cons_succ, List.getElem_cons_zero, List.setIfInBounds_toArray, List.set_cons_zero, List.set_cons_succ]
        (refine wpAnyH_take (i := 4) (v := ?_) rfl (by kernel_rfl) (by kernel_rfl) (by kernel_rfl) (fun _ _ _ h => h) (Or.inl ⟨by rfl, ?_⟩) hHeld ?_; rotate_left; focus (intro w hSw; (try dsimp only at hSw); go_simp; (try with_reducible rfl)))
        try simp only [Act.put, List.getElem_toArray, List.getElem_cons_succ, List.getElem_cons_zero, List.setIfInBounds_toArray, List.set_cons_zero, List.set_cons_succ]
        (refine wpAnyH_take (i := 5) (v := ?_) rfl (by kernel_rfl) (by kernel_rfl) (by kernel_rfl) (fun _ _ _ h => h) (Or.inl ⟨by rfl, ?_⟩) hHeld ?_; rotate_left; focus (intro w hSw; (try dsimp only at hSw); go_simp; (try with_reducible rfl)))
        try simp only [Act.put, List.getElem_toArray, List.getElem_cons_succ, List.getElem_cons_zero, List.setIfInBounds_toArray, List.set_cons_zero, List.set_cons_succ]
        first | (refine wpAnyH_take (i := 6) rfl (by kernel_rfl) (by kernel_rfl) (by kernel_rfl) (fun _ _ _ h => h) (Or.inr ⟨by rfl, rfl⟩) hHeld ?_) | (refine wpAnyH_take (i := 6) (v := ?_) rfl (by kernel_rfl) (by kernel_rfl) (by kernel_rfl) (fun _ _ _ h => h) (Or.inl ⟨by rfl, ?_⟩) hHeld ?_; rotate_left; focus (intro w hSw; (try dsimp only at hSw); go_simp; (try with_reducible rfl)))
        try simp only [Act.put, List.getElem_toArray, List.getElem_cons_succ, List.getElem_cons_zero, List.setIfInBounds_toArray, List.set_cons_zero, List.set_cons_succ]
        first | (refine wpAnyH_take (i := 7) rfl (by kernel_rfl) (by kernel_rfl) (by kernel_rfl) (fun _ _ _ h => h) (Or.inr ⟨by rfl, rfl⟩) hHeld ?_) | (refine wpAnyH_take (i := 7) (v := ?_) rfl (by kernel_rfl) (by kernel_rfl) (by kernel_rfl) (fun _ _ _ h => h) (Or.inl ⟨by rfl, ?_⟩) hHeld ?_; rotate_left; focus (intro w hSw; (try dsimp only at hSw); go_simp; (try with_reducible rfl)))
        try simp only [Act.put, List.getElem_toArray, List.getElem_cons_succ, List.getElem_cons_zero, List.setIfInBounds_toArray, List.set_cons_zero, List.set_cons_succ]
        first | (refine wpAnyH_take (i := 8) rfl (by kernel_rfl) (by kernel_rfl) (by kernel_rfl) (fun _ _ _ h => h) (Or.inr ⟨by rfl, rfl⟩) hHeld ?_) | (refine wpAnyH_ready (rs := [8]) (by kernel_rfl) (by simp) ?_; refine AllReadyH.cons rfl (fun K hK => ?_) AllReadyH.nil; go_simp; (first | (go_at_call 17; refine (R5.out _ _ _ hHeld.1.back (told_lies HJ.out.1 hHeld.1.all)).mono ?_; rintro e w' ⟨rfl, hd⟩; have hb := drewB hd; clear hd) | (go_at_call 6; refine (C9.out _).mono ?_; rintro e w' ⟨rfl, hb⟩)); (try go_wp2_with fail); refine hK.out _ _ ?_ (fun hHeld' => ?_); (focus (exact hkeep _ _ hb hHeld)); clear hK K; replace hHeld := hHeld'; clear hHeld')
        try simp only [Act.put, List.getElem_toArray, List.getElem_cons_succ, List.getElem_cons_zero, List.setIfInBounds_toArray, List.set_cons_zero, List.set_cons_succ]
        (refine wpAnyH_take (i := 9) (v := ?_) rfl (by kernel_rfl) (by kernel_rfl) (by kernel_rfl) (fun _ _ _ h => h) (Or.inl ⟨by rfl, ?_⟩) hHeld ?_; rotate_left; focus (intro w hSw; (try dsimp only at hSw); go_simp; (try with_reducible rfl)))
        try simp only [Act.put, List.getElem_toArray, List.getElem_cons_succ, List.getElem_cons_zero, List.setIfInBounds_toArray, List.set_cons_zero, List.set_cons_succ]
        (refine wpAnyH_take (i := 10) (v := ?_) rfl (by kernel_rfl) (by kernel_rfl) (by kernel_rfl) (fun _ _ _ h => h) (Or.inl ⟨by rfl, ?_⟩) hHeld ?_; rotate_left; focus (intro w hSw; (try dsimp only at hSw); go_simp; (try with_reducible rfl)))
        try simp only [Act.put, List.getElem_toArray, List.getElem_cons_succ, List.getElem_cons_zero, List.setIfInBounds_toArray, List.set_cons_zero, List.set_cons_succ]
        first | (refine wpAnyH_take (i := 11) rfl (by kernel_rfl) (by kernel_rfl) (by kernel_rfl) (fun _ _ _ h => h) (Or.inr ⟨by rfl, rfl⟩) hHeld ?_) | (refine wpAnyH_take (i := 11) (v := ?_) rfl (by kernel_rfl) (by kernel_rfl) (by kernel_rfl) (fun _ _ _ h => h) (Or.inl ⟨by rfl, ?_⟩) hHeld ?_; rotate_left; focus (intro w hSw; (try dsimp only at hSw); go_simp; (try with_reducible rfl)))
        try simp only [Act.put, List.getElem_toArray, List.getElem_cons_succ, List.getElem_cons_zero, List.setIfInBounds_toArray, List.set_cons_zero, List.set_cons_succ]
        first | (refine wpAnyH_take (i := 12) rfl (by kernel_rfl) (by kernel_rfl) (by kernel_rfl) (fun _ _ _ h => h) (Or.inr ⟨by rfl, rfl⟩) hHeld ?_) | (refine wpAnyH_take (i := 12) (v := ?_) rfl (by kernel_rfl) (by kernel_rfl) (by kernel_rfl) (fun _ _ _ h => h) (Or.inl ⟨by rfl, ?_⟩) hHeld ?_; rotate_left; focus (intro w hSw; (try dsimp only at hSw); go_simp; (try with_reducible rfl)))
        try simp only [Act.put, List.getElem_toArray, List.getElem_cons_succ, List.getElem_cons_zero, List.setIfInBounds_toArray, List.set_cons_zero, List.set_cons_succ]
        first | (refine wpAnyH_take (i := 13) rfl (by kernel_rfl) (by kernel_rfl) (by kernel_rfl) (fun _ _ _ h => h) (Or.inr ⟨by rfl, rfl⟩) hHeld ?_) | (refine wpAnyH_take (i := 13) (v := ?_) rfl (by kernel_rfl) (by kernel_rfl) (by kernel_rfl) (fun _ _ _ h => h) (Or.inl ⟨by rfl, ?_⟩) hHeld ?_; rotate_left; focus (intro w hSw; (try dsimp only at hSw); go_simp; (try with_reducible rfl)))
        try simp only [Act.put, List.getElem_toArray, List.getElem_cons_succ, List.getElem_cons_zero, List.setIfInBounds_toArray, List.set_cons_zero, List.set_cons_succ]
        first | (refine wpAnyH_take (i := 14) rfl (by kernel_rfl) (by kernel_rfl) (by kernel_rfl) (fun _ _ _ h => h) (Or.inr ⟨by rfl, rfl⟩) hHeld ?_) | (refine wpAnyH_take (i := 14) (v := ?_) rfl (by kernel_rfl) (by kernel_rfl) (by kernel_rfl) (fun _ _ _ h => h) (Or.inl ⟨by rfl, ?_⟩) hHeld ?_; rotate_left; focus (intro w hSw; (try dsimp only at hSw); go_simp; (try with_reducible rfl)))
        try simp only [Act.put, List.getElem_toArray, List.getElem_cons_succ, List.getElem_cons_zero, List.setIfInBounds_toArray, List.set_cons_zero, List.set_cons_succ]
        (refine wpAnyH_take (i := 15) (v := ?_) rfl (by kernel_rfl) (by kernel_rfl) (by kernel_rfl) (fun _ _ _ h => h) (Or.inl ⟨by rfl, ?_⟩) hHeld ?_; rotate_left; focus (intro w hSw; (try dsimp only at hSw); go_simp; (try with_reducible rfl)))
        try simp only [Act.put, List.getElem_toArray, List.getElem_cons_succ, List.getElem_cons_zero, List.setIfInBounds_toArray, List.set_cons_zero, List.set_cons_succ]
        (refine wpAnyH_take (i := 16) (v := ?_) rfl (by kernel_rfl) (by kernel_rfl) (by kernel_rfl) (fun _ _ _ h => h) (Or.inl ⟨by rfl, ?_⟩) hHeld ?_; rotate_left; focus (intro w hSw; (try dsimp only at hSw); go_simp; (try with_reducible rfl)))
        try simp only [Act.put, List.getElem_toArray, List.getElem_cons_succ, List.getElem_cons_zero, List.setIfInBounds_toArray, List.set_cons_zero, List.set_cons_succ]
        first | (refine wpAnyH_take (i := 17) rfl (by kernel_rfl) (by kernel_rfl) (by kernel_rfl) (fun _ _ _ h => h) (Or.inr ⟨by rfl, rfl⟩) hHeld ?_) | (refine wpAnyH_take (i := 17) (v := ?_) rfl (by kernel_rfl) (by kernel_rfl) (by kernel_rfl) (fun _ _ _ h => h) (Or.inl ⟨by rfl, ?_⟩) hHeld ?_; rotate_left; focus (intro w hSw; (try dsimp only at hSw); go_simp; (try with_reducible rfl)))
        try simp only [Act.put, List.getElem_toArray, List.getElem_cons_succ, List.getElem_cons_zero, List.setIfInBounds_toArray, List.set_cons_zero, List.set_cons_succ]
        first | (refine wpAnyH_take (i := 18) rfl (by kernel_rfl) (by kernel_rfl) (by kernel_rfl) (fun _ _ _ h => h) (Or.inr ⟨by rfl, rfl⟩) hHeld ?_) | (refine wpAnyH_take (i := 18) (v := ?_) rfl (by kernel_rfl) (by kernel_rfl) (by kernel_rfl) (fun _ _ _ h => h) (Or.inl ⟨by rfl, ?_⟩) hHeld ?_; rotate_left; focus (intro w hSw; (try dsimp only at hSw); go_simp; (try with_reducible rfl)))
        try simp only [Act.put, List.getElem_toArray, List.getElem_cons_succ, List.getElem_cons_zero, List.setIfInBounds_toArray, List.set_cons_zero, List.set_cons_succ]
        first | (refine wpAnyH_take (i := 19) rfl (by kernel_rfl) (by kernel_rfl) (by kernel_rfl) (fun _ _ _ h => h) (Or.inr ⟨by rfl, rfl⟩) hHeld ?_) | (refine wpAnyH_take (i := 19) (v := ?_) rfl (by kernel_rfl) (by kernel_rfl) (by kernel_rfl) (fun _ _ _ h => h) (Or.inl ⟨by rfl, ?_⟩) hHeld ?_; rotate_left; focus (intro w hSw; (try dsimp only at hSw); go_simp; (try with_reducible rfl)))
        try simp only [Act.put, List.getElem_toArray, List.getElem_cons_succ, List.getElem_cons_zero, List.setIfInBounds_toArray, List.set_cons_zero, List.set_cons_succ]
        first | (refine wpAnyH_take (i := 20) rfl (by kernel_rfl) (by kernel_rfl) (by kernel_rfl) (fun _ _ _ h => h) (Or.inr ⟨by rfl, rfl⟩) hHeld ?_) | (refine wpAnyH_take (i := 20) (v := ?_) rfl (by kernel_rfl) (by kernel_rfl) (by kernel_rfl) (fun _ _ _ h => h) (Or.inl ⟨by rfl, ?_⟩) hHeld ?_; rotate_left; focus (intro w hSw; (try dsimp only at hSw); go_simp; (try with_reducible rfl)))
        try simp only [Act.put, List.getElem_toArray, List.getElem_cons_succ, List.getElem_cons_zero, List.setIfInBounds_toArray, List.set_cons_zero, List.set_cons_succ]
        first | (refine wpAnyH_take (i := 21) rfl (by kernel_rfl) (by kernel_rfl) (by kernel_rfl) (fun _ _ _ h => h) (Or.inr ⟨by rfl, rfl⟩) hHeld ?_) | (refine wpAnyH_take (i := 21) (v := ?_) rfl (by kernel_rfl) (by kernel_rfl) (by kernel_rfl) (fun _ _ _ h => h) (Or.inl ⟨by rfl, ?_⟩) hHeld ?_; rotate_left; focus (intro w hSw; (try dsimp only at hSw); go_simp; (try with_reducible rfl)))
        try simp only [Act.put, List.getElem_toArray, List.getElem_cons_succ, List.getElem_cons_zero, List.setIfInBounds_toArray, List.set_cons_zero, List.set_cons_succ]
        first | (refine wpAnyH_take (i := 22) rfl (by kernel_rfl) (by kernel_rfl) (by kernel_rfl) (fun _ _ _ h => h) (Or.inr ⟨by rfl, rfl⟩) hHeld ?_) | (refine wpAnyH_take (i := 22) (v := ?_) rfl (by kernel_rfl) (by kernel_rfl) (by kernel_rfl) (fun _ _ _ h => h) (Or.inl ⟨by rfl, ?_⟩) hHeld ?_; rotate_left; focus (intro w hSw; (try dsimp only at hSw); go_simp; (try with_reducible rfl)))
        try simp only [Act.put, List.getElem_toArray, List.getElem_cons_succ, List.getElem_cons_zero, List.setIfInBounds_toArray, List.set_cons_zero, List.set_cons_succ]
        (refine wpAnyH_take (i := 23) (v := ?_) rfl (by kernel_rfl) (by kernel_rfl) (by kernel_rfl) (fun _ _ _ h => h) (Or.inl ⟨by rfl, ?_⟩) hHeld ?_; rotate_left; focus (intro w hSw; (try dsimp only at hSw); go_simp; (try with_reducible rfl)))
        try simp only [Act.put, List.getElem_toArray, List.getElem_cons_succ, List.getElem_cons_zero, List.setIfInBounds_toArray, List.set_cons_zero, List.set_cons_succ]
        (refine wpAnyH_take (i := 24) (v := ?_) rfl (by kernel_rfl) (by kernel_rfl) (by kernel_rfl) (fun _ _ _ h => h) (Or.inl ⟨by rfl, ?_⟩) hHeld ?_; rotate_left; focus (intro w hSw; (try dsimp only at hSw); go_simp; (try with_reducible rfl)))
        try simp only [Act.put, List.getElem_toArray, List.getElem_cons_succ, List.getElem_cons_zero, List.setIfInBounds_toArray, List.set_cons_zero, List.set_cons_succ]
        first | (refine wpAnyH_take (i := 25) rfl (by kernel_rfl) (by kernel_rfl) (by kernel_rfl) (fun _ _ _ h => h) (Or.inr ⟨by rfl, rfl⟩) hHeld ?_) | (refine wpAnyH_take (i := 25) (v := ?_) rfl (by kernel_rfl) (by kernel_rfl) (by kernel_rfl) (fun _ _ _ h => h) (Or.inl ⟨by rfl, ?_⟩) hHeld ?_; rotate_left; focus (intro w hSw; (try dsimp only at hSw); go_simp; (try with_reducible rfl)))
        try simp only [Act.put, List.getElem_toArray, List.getElem_cons_succ, List.getElem_cons_zero, List.setIfInBounds_toArray, List.set_cons_zero, List.set_cons_succ]
        first | (refine wpAnyH_take (i := 26) rfl (by kernel_rfl) (by kernel_rfl) (by kernel_rfl) (fun _ _ _ h => h) (Or.inr ⟨by rfl, rfl⟩) hHeld ?_) | (refine wpAnyH_take (i := 26) (v := ?_) rfl (by kernel_rfl) (by kernel_rfl) (by kernel_rfl) (fun _ _ _ h => h) (Or.inl ⟨by rfl, ?_⟩) hHeld ?_; rotate_left; focus (intro w hSw; (try dsimp only at hSw); go_simp; (try with_reducible rfl)))
        try simp only [Act.put, List.getElem_toArray, List.getElem_cons_succ, List.getElem_cons_zero, List.setIfInBounds_toArray, List.set_cons_zero, List.set_cons_succ]
        first | (refine wpAnyH_take (i := 27) rfl (by kernel_rfl) (by kernel_rfl) (by kernel_rfl) (fun _ _ _ h => h) (Or.inr ⟨by rfl, rfl⟩) hHeld ?_) | (refine wpAnyH_take (i := 27) (v := ?_) rfl (by kernel_rfl) (by kernel_rfl) (by kernel_rfl) (fun _ _ _ h => h) (Or.inl ⟨by rfl, ?_⟩) hHeld ?_; rotate_left; focus (intro w hSw; (try dsimp only at hSw); go_simp; (try with_reducible rfl)))
        try simp only [Act.put, List.getElem_toArray, List.getElem_cons_succ, List.getElem_cons_zero, List.setIfInBounds_toArray, List.set_cons_zero, List.set_cons_succ]
        first | (refine wpAnyH_take (i := 28) rfl (by kernel_rfl) (by kernel_rfl) (by kernel_rfl) (fun _ _ _ h => h) (Or.inr ⟨by rfl, rfl⟩) hHeld ?_) | (refine wpAnyH_take (i := 28) (v := ?_) rfl (by kernel_rfl) (by kernel_rfl) (by kernel_rfl) (fun _ _ _ h => h) (Or.inl ⟨by rfl, ?_⟩) hHeld ?_; rotate_left; focus (intro w hSw; (try dsimp only at hSw); go_simp; (try with_reducible rfl)))
        try simp only [Act.put, List.getElem_toArray, List.getElem_cons_succ, List.getElem_cons_zero, List.setIfInBounds_toArray, List.set_cons_zero, List.set_cons_succ]
        first | (refine wpAnyH_take (i := 29) rfl (by kernel_rfl) (by kernel_rfl) (by kernel_rfl) (fun _ _ _ h => h) (Or.inr ⟨by rfl, rfl⟩) hHeld ?_) | (refine wpAnyH_take (i := 29) (v := ?_) rfl (by kernel_rfl) (by kernel_rfl) (by kernel_rfl) (fun _ _ _ h => h) (Or.inl ⟨by rfl, ?_⟩) hHeld ?_; rotate_left; focus (intro w hSw; (try dsimp only at hSw); go_simp; (try with_reducible rfl)))
        try simp only [Act.put, List.getElem_toArray, List.getElem_cons_succ, List.getElem_cons_zero, List.setIfInBounds_toArray, List.set_cons_zero, List.set_cons_succ]
        first | (refine wpAnyH_take (i := 30) rfl (by kernel_rfl) (by kernel_rfl) (by kernel_rfl) (fun _ _ _ h => h) (Or.inr ⟨by rfl, rfl⟩) hHeld ?_) | (refine wpAnyH_take (i := 30) (v := ?_) rfl (by kernel_rfl) (by kernel_rfl) (by kernel_rfl) (fun _ _ _ h => h) (Or.inl ⟨by rfl, ?_⟩) hHeld ?_; rotate_left; focus (intro w hSw; (try dsimp only at hSw); go_simp; (try with_reducible rfl)))
        try simp only [Act.put, List.getElem_toArray, List.getElem_cons_succ, List.getElem_cons_zero, List.setIfInBounds_toArray, List.set_cons_zero, List.set_cons_succ]
        (refine wpAnyH_take (i := 31) (v := ?_) rfl (by kernel_rfl) (by kernel_rfl) (by kernel_rfl) (fun _ _ _ h => h) (Or.inl ⟨by rfl, ?_⟩) hHeld ?_; rotate_left; focus (intro w hSw; (try dsimp only at hSw); go_simp; (try with_reducible rfl)))
        try simp only [Act.put, List.getElem_toArray, List.getElem_cons_succ, List.getElem_cons_zero, List.setIfInBounds_toArray, List.set_cons_zero, List.set_cons_succ]
        (refine wpAnyH_take (i := 32) (v := ?_) rfl (by kernel_rfl) (by kernel_rfl) (by kernel_rfl) (fun _ _ _ h => h) (Or.inl ⟨by rfl, ?_⟩) hHeld ?_; rotate_left; focus (intro w hSw; (try dsimp only at hSw); go_simp; (try with_reducible rfl)))
        try simp only [Act.put, List.getElem_toArray, List.getElem_cons_succ, List.getElem_cons_zero, List.setIfInBounds_toArray, List.set_cons_zero, List.set_cons_succ]
        first | (refine wpAnyH_take (i := 33) rfl (by kernel_rfl) (by kernel_rfl) (by kernel_rfl) (fun _ _ _ h => h) (Or.inr ⟨by rfl, rfl⟩) hHeld ?_) | (refine wpAnyH_ready (rs := [33]) (by kernel_rfl) (by simp) ?_; refine AllReadyH.cons rfl (fun K hK => ?_) AllReadyH.nil; go_simp; (first | (go_at_call 17; refine (R5.out _ _ _ hHeld.1.back (told_lies HJ.out.1 hHeld.1.all)).mono ?_; rintro e w' ⟨rfl, hd⟩; have hb := drewB hd; clear hd) | (go_at_call 6; refine (C9.out _).mono ?_; rintro e w' ⟨rfl, hb⟩)); (try go_wp2_with fail); refine hK.out _ _ ?_ (fun hHeld' => ?_); (focus (exact hkeep _ _ hb hHeld)); clear hK K; replace hHeld := hHeld'; clear hHeld')
        try simp only [Act.put, List.getElem_toArray, List.getElem_cons_succ, List.getElem_cons_zero, List.setIfInBounds_toArray, List.set_cons_zero, List.set_cons_succ]
        (refine wpAnyH_take (i := 34) (v := ?_) rfl (by kernel_rfl) (by kernel_rfl) (by kernel_rfl) (fun _ _ _ h => h) (Or.inl ⟨by rfl, ?_⟩) hHeld ?_; rotate_left; focus (intro w hSw; (try dsimp only at hSw); go_simp; (try with_reducible rfl)))
        try simp only [Act.put, List.getElem_toArray, List.getElem_cons_succ, List.getElem_cons_zero, List.setIfInBounds_toArray, List.set_cons_zero, List.set_cons_succ]
        (refine wpAnyH_take (i := 35) (v := ?_) rfl (by kernel_rfl) (by kernel_rfl) (by kernel_rfl) (fun _ _ _ h => h) (Or.inl ⟨by rfl, ?_⟩) hHeld ?_; rotate_left; focus (intro w hSw; (try dsimp only at hSw); go_simp; (try with_reducible rfl)))
        try simp only [Act.put, List.getElem_toArray, List.getElem_cons_succ, List.getElem_cons_zero, List.setIfInBounds_toArray, List.set_cons_zero, List.set_cons_succ]
        refine wpAnyH_done (by kernel_rfl) ?_ _
        refine NoPanic.normal ?_
        have hb := HBB.out _ hHeld
        have HBF := Lib.hid hb
        clear hHeld hb
        go_wp2_with fail
        go_ret
        exact ⟨rfl, by rw [HH.out]; exact HBF.out⟩

theorem rowsKeep_walk (A : Option Addr) (c : Nat) (L : List Rw) (hM : L.length ≤ 9223372036854775807) (key : Int) (w : World) (hl : Lies w A L) :
    Calls Try.prog 5 #[.slice A L.length c, .int .i64 key] w fun e w' => e = .returned (.bool true) ∧ Below w.heap.size w w' := by
  rcases Nat.lt_or_ge 100 L.length with h | h
  · exact rowsKeep_long A c L h hM key w
  · exact rowsKeep_short A c L h key w hl
end Go.Proofs.Ytajkbeihopicnaa
