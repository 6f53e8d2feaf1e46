/- The walk of law FailBare. -/
import Derived.Test.YtgbgemgpdaclaaaDoorErrsMade
namespace Go.Proofs.YtgbgemgpdaclaaaDoor
open Go.ChangeShapes Go.WideShapes Go.RowKit
theorem bare_is (s : List UInt8) (w : World) (hs : s.length ≤ 200) : ErrsIs (w.alloc (.cells #[.int .i64 0, .int .i64 0, .string (sB s), .nilIface] 45)) (.err w.heap.size 0 0 s .no) := by
  refine ⟨by simp, ?_, ?_, ?_, ?_, by decide, by decide, hs, Nat.zero_le _, True.intro⟩
  · simp
  · simp
  · simp
  · simp [Errs.val]
set_option maxHeartbeats 4000000 in
theorem failBare_walk (c o : Int) (s : List UInt8) (bc : -9223372036854775808 ≤ c ∧ c ≤ 9223372036854775807) (bo : -9223372036854775808 ≤ o ∧ o ≤ 9223372036854775807) (W : World) (hg : ErrT W) (ht : TabW W) :
    Calls Tryd.prog 4 #[.int .i64 c, .int .i64 o, .string (sB s)] W fun r W' => r = .returned (.bool true) ∧ Below W.heap.size W W' := by
  have HG := Lib.hid hg; have HT := Lib.hid ht
  clear hg ht
  have L := Lib.hid (fun w' (hb : Below W.heap.size W w') => lives_any w' (HT.out.below hb))
  have hsz := sB_size s
  by_cases hs : 200 < s.length
  · generalize sB s = S at *
    have t1 : (200 : Int) < ((S.size : Nat) : Int) := by omega
    go_enter Tryd.func4, Tryd.ntmps4
    go_wp2_with (go_at_call 7; refine (L.out _ (Below.refl _ _)).mono ?_; rintro r w1 ⟨rfl, hb1⟩)
    go_ret
    exact ⟨rfl, hb1⟩
  have hs' : s.length ≤ 200 := by omega
  have C1 : Hid (∀ w', Below W.heap.size W w' → Calls Tryd.prog 9 #[.iface 22 (.int .i64 c)] w' fun r w'' => r = .returned (.tuple #[.int .i64 0, .int .i64 0, .bool false]) ∧ Below w'.heap.size w' w'') :=
    Lib.hid (fun w' hb => where_any (.code c) w' bc (HG.out.below hb))
  have C2 : Hid (∀ w', Below W.heap.size W w' → Calls Tryd.prog 12 #[.iface 22 (.int .i64 c)] w' fun r w'' => r = .returned (.int .i64 c) ∧ Below w'.heap.size w' w'') :=
    Lib.hid (fun w' hb => code_any (.code c) w' bc (HG.out.below hb))
  have C3 : Hid (∀ w', Calls Tryd.prog 13 #[.iface 22 (.int .i64 c), .int .i64 o] w' fun r w'' => r = .returned (.bool (decide (c = o))) ∧ w' = w'') :=
    Lib.hid (fun w' => (fIs_any (.code c) o w' bc).mono fun r w'' ⟨h1, h2⟩ => ⟨by rw [h1]; show Ending.returned (.bool (decide (some c = some o))) = _; simp, h2⟩)
  have C4 : Hid (∀ w', Calls Tryd.prog 14 #[.iface 22 (.int .i64 c)] w' fun r w'' => r = .returned (.int .i64 0) ∧ w' = w'') :=
    Lib.hid (fun w' => deep_any (.code c) w' bc (Nat.zero_le _))
  have C5 : Hid (∀ w', Below W.heap.size W w' → Calls Tryd.prog 10 #[.iface 22 (.int .i64 c)] w' fun r w'' => r = .returned (.string (sB (nameL c))) ∧ Below w'.heap.size w' w'') :=
    Lib.hid (fun w' hb => text_any (.code c) w' bc (HT.out.below hb) (Nat.le_trans (name_len c) (by decide)))
  have C6 : Hid (∀ w', Calls Tryd.prog 15 #[.int .i64 c] w' fun r w'' => r = .returned (.string (sB (nameL c))) ∧ Below w'.heap.size w' w'') := Lib.hid (fun w' => rName_any c bc.1 bc.2 w')
  have C7 : Hid (∀ w', Calls Tryd.prog 16 #[.string (sB s), .iface 22 (.int .i64 c)] w' fun r w'' => r = .returned (.iface 58 (.pointer (some ⟨w'.heap.size, 0, none⟩))) ∧ ErrsIs w'' (.note w'.heap.size s (.code c)) ∧ Below w'.heap.size w' w'') :=
    Lib.hid (fun w' => note_any s (.code c) w' (by intro h; cases h) bc hs')
  have D1 : Hid (∀ g w', ErrsIs w' (.note g s (.code c)) → Below W.heap.size W w' → Calls Tryd.prog 12 #[.iface 58 (.pointer (some ⟨g, 0, none⟩))] w' fun r w'' => r = .returned (.int .i64 c) ∧ Below w'.heap.size w' w'') :=
    Lib.hid (fun g w' h hb => code_any (.note g s (.code c)) w' h (HG.out.below hb))
  have hlen : (s ++ [58, 32] ++ nameL c).length ≤ 20000 := by
    have := name_len c
    simp only [List.length_append, List.length_cons, List.length_nil]
    omega
  have D2 : Hid (∀ g w', ErrsIs w' (.note g s (.code c)) → Below W.heap.size W w' → Calls Tryd.prog 10 #[.iface 58 (.pointer (some ⟨g, 0, none⟩))] w' fun r w'' => r = .returned (.string (sB (s ++ [58, 32] ++ nameL c))) ∧ Below w'.heap.size w' w'') :=
    Lib.hid (fun g w' h hb => text_any (.note g s (.code c)) w' h (HT.out.below hb) hlen)
  have D3 : Hid (∀ g w', ErrsIs w' (.note g s (.code c)) → Calls Tryd.prog 14 #[.iface 58 (.pointer (some ⟨g, 0, none⟩))] w' fun r w'' => r = .returned (.int .i64 1) ∧ w' = w'') :=
    Lib.hid (fun g w' h => deep_any (.note g s (.code c)) w' h (by show 1 ≤ 1000; decide))
  have E1 : Hid (∀ w', Below W.heap.size W w' → Calls Tryd.prog 17 #[.pointer none] w' fun r w'' => r = .returned (.string ⟨#[111, 107]⟩) ∧ Below w'.heap.size w' w'') := Lib.hid (fun w' hb => error_nil w' (HT.out.below hb))
  have E2 : Hid (∀ w', Calls Tryd.prog 16 #[.string (sB s), .iface 41 (.pointer none)] w' fun r w'' => r = .returned (.iface 58 (.pointer (some ⟨w'.heap.size, 0, none⟩))) ∧ ErrsIs w'' (.note w'.heap.size s .nilE) ∧ Below w'.heap.size w' w'') :=
    Lib.hid (fun w' => note_any s .nilE w' (by intro h; cases h) True.intro hs')
  have E3 : Hid (∀ g w', ErrsIs w' (.note g s .nilE) → Below W.heap.size W w' → Calls Tryd.prog 12 #[.iface 58 (.pointer (some ⟨g, 0, none⟩))] w' fun r w'' => r = .returned (.int .i64 14) ∧ Below w'.heap.size w' w'') :=
    Lib.hid (fun g w' h hb => code_any (.note g s .nilE) w' h (HG.out.below hb))
  have E4 : Hid (∀ g w', ErrsIs w' (.err g 0 0 s .no) → Below W.heap.size W w' → Calls Tryd.prog 12 #[.iface 41 (.pointer (some ⟨g, 0, none⟩))] w' fun r w'' => r = .returned (.int .i64 14) ∧ Below w'.heap.size w' w'') :=
    Lib.hid (fun g w' h hb => code_any (.err g 0 0 s .no) w' h (HG.out.below hb))
  have E5 : Hid (∀ w' : World, ErrsIs (w'.alloc (.cells #[.int .i64 0, .int .i64 0, .string (sB s), .nilIface] 45)) (.err w'.heap.size 0 0 s .no)) := Lib.hid (fun w' => bare_is s w' hs')
  have t1 : ¬ (200 : Int) < ((s.length : Nat) : Int) := by omega
  rw [← hsz] at t1
  have hq : Hid (sB (s ++ [58, 32] ++ nameL c) = sB s ++ ⟨#[58, 32]⟩ ++ sB (nameL c)) := Lib.hid (by rw [← sB_append, ← sB_append]; rfl)
  have hnl : (sB (nameL c)).size ≤ 6 := by rw [sB_size]; exact name_len c
  have hsl : (sB s).size ≤ 200 := by rw [hsz]; exact hs'
  generalize hN : sB (nameL c) = N1 at *
  generalize hS : sB s = S at *
  have y1 : S.size + 2 ≤ 9223372036854775807 := by omega
  have hq' := hq.out
  rw [hq'] at D2
  have HQ := Lib.hid hq'
  generalize hr3 : S ++ (⟨#[58, 32]⟩ : ByteArray) = r3 at *
  have l3 : r3.size ≤ 202 := by rw [← hr3, ByteArray.size_append]; show S.size + 2 ≤ 202; omega
  have y2 : r3.size + N1.size ≤ 9223372036854775807 := by omega
  clear hs hs' hlen hsz hq hq' hN hS hnl hsl l3
  by_cases hco : c = o
  · subst hco
    simp only [decide_true] at C3
    go_enter Tryd.func4, Tryd.ntmps4
    go_wp2_with fail
    with_reducible refine (C1.out _ (Below.refl _ _)).mono ?_
    rintro r w1 ⟨rfl, hb1⟩
    go_wp2_with fail
    with_reducible refine (C2.out _ hb1).mono ?_
    rintro r w2 ⟨rfl, hb2⟩
    have d2 := hb1.trans (hb2.mono hb1.size)
    go_wp2_with fail
    with_reducible refine (C3.out _).mono ?_
    rintro r w' ⟨rfl, rfl⟩
    go_wp2_with fail
    with_reducible refine (C4.out _).mono ?_
    rintro r w' ⟨rfl, rfl⟩
    go_wp2_with fail
    with_reducible refine (C5.out _ d2).mono ?_
    rintro r w3 ⟨rfl, hb3⟩
    have d3 := d2.trans (hb3.mono d2.size)
    go_wp2_with fail
    with_reducible refine (C6.out _).mono ?_
    rintro r w4 ⟨rfl, hb4⟩
    have d4 := d3.trans (hb4.mono d3.size)
    go_wp2_with fail
    with_reducible refine (C7.out _).mono ?_
    rintro r w5 ⟨rfl, hn5, hb5⟩
    have d5 := d4.trans (hb5.mono d4.size)
    go_wp2_with fail
    with_reducible refine (D1.out _ _ hn5 d5).mono ?_
    rintro r w6 ⟨rfl, hb6⟩
    have d6 := d5.trans (hb6.mono d5.size)
    have hn6 := hn5.below hb6
    go_wp2_with fail
    with_reducible refine (D2.out _ _ hn6 d6).mono ?_
    rintro r w7 ⟨rfl, hb7⟩
    have d7 := d6.trans (hb7.mono d6.size)
    have hn7 := hn6.below hb7
    go_wp2_with fail
    with_reducible refine (C6.out _).mono ?_
    rintro r w8 ⟨rfl, hb8⟩
    have d8 := d7.trans (hb8.mono d7.size)
    have hn8 := hn7.below hb8
    go_wp2_with fail
    with_reducible refine (D3.out _ _ hn8).mono ?_
    rintro r w' ⟨rfl, rfl⟩
    go_wp2_with fail
    with_reducible refine (E1.out _ d8).mono ?_
    rintro r w9 ⟨rfl, hb9⟩
    have d9 := d8.trans (hb9.mono d8.size)
    go_wp2_with fail
    with_reducible refine (eUnwrap_nil _).mono ?_
    rintro r w' ⟨rfl, rfl⟩
    go_wp2_with fail
    with_reducible refine (E2.out _).mono ?_
    rintro r w10 ⟨rfl, hn10, hb10⟩
    have d10 := d9.trans (hb10.mono d9.size)
    go_wp2_with fail
    with_reducible refine (E3.out _ _ hn10 d10).mono ?_
    rintro r w11 ⟨rfl, hb11⟩
    have d11 := d10.trans (hb11.mono d10.size)
    have d12 : Below W.heap.size W (w11.alloc (.cells #[.int .i64 0, .int .i64 0, .string S, .nilIface] 45)) := d11.alloc d11.size _
    have hn12 := E5.out w11
    go_wp2_with fail
    with_reducible refine (E4.out _ _ hn12 d12).mono ?_
    rintro r w13 ⟨rfl, hb13⟩
    have d13 := d12.trans (hb13.mono d12.size)
    go_wp2_with fail
    with_reducible refine (L.out _ d13).mono ?_
    rintro r w14 ⟨rfl, hb14⟩
    go_wp2_with fail
    go_ret
    exact ⟨rfl, d13.trans (hb14.mono d13.size)⟩
  · simp only [hco, decide_false] at C3
    go_enter Tryd.func4, Tryd.ntmps4
    go_wp2_with fail
    with_reducible refine (C1.out _ (Below.refl _ _)).mono ?_
    rintro r w1 ⟨rfl, hb1⟩
    go_wp2_with fail
    with_reducible refine (C2.out _ hb1).mono ?_
    rintro r w2 ⟨rfl, hb2⟩
    have d2 := hb1.trans (hb2.mono hb1.size)
    go_wp2_with fail
    with_reducible refine (C3.out _).mono ?_
    rintro r w' ⟨rfl, rfl⟩
    go_wp2_with fail
    with_reducible refine (C4.out _).mono ?_
    rintro r w' ⟨rfl, rfl⟩
    go_wp2_with fail
    with_reducible refine (C5.out _ d2).mono ?_
    rintro r w3 ⟨rfl, hb3⟩
    have d3 := d2.trans (hb3.mono d2.size)
    go_wp2_with fail
    with_reducible refine (C6.out _).mono ?_
    rintro r w4 ⟨rfl, hb4⟩
    have d4 := d3.trans (hb4.mono d3.size)
    go_wp2_with fail
    with_reducible refine (C7.out _).mono ?_
    rintro r w5 ⟨rfl, hn5, hb5⟩
    have d5 := d4.trans (hb5.mono d4.size)
    go_wp2_with fail
    with_reducible refine (D1.out _ _ hn5 d5).mono ?_
    rintro r w6 ⟨rfl, hb6⟩
    have d6 := d5.trans (hb6.mono d5.size)
    have hn6 := hn5.below hb6
    go_wp2_with fail
    with_reducible refine (D2.out _ _ hn6 d6).mono ?_
    rintro r w7 ⟨rfl, hb7⟩
    have d7 := d6.trans (hb7.mono d6.size)
    have hn7 := hn6.below hb7
    go_wp2_with fail
    with_reducible refine (C6.out _).mono ?_
    rintro r w8 ⟨rfl, hb8⟩
    have d8 := d7.trans (hb8.mono d7.size)
    have hn8 := hn7.below hb8
    go_wp2_with fail
    with_reducible refine (D3.out _ _ hn8).mono ?_
    rintro r w' ⟨rfl, rfl⟩
    go_wp2_with fail
    with_reducible refine (E1.out _ d8).mono ?_
    rintro r w9 ⟨rfl, hb9⟩
    have d9 := d8.trans (hb9.mono d8.size)
    go_wp2_with fail
    with_reducible refine (eUnwrap_nil _).mono ?_
    rintro r w' ⟨rfl, rfl⟩
    go_wp2_with fail
    with_reducible refine (E2.out _).mono ?_
    rintro r w10 ⟨rfl, hn10, hb10⟩
    have d10 := d9.trans (hb10.mono d9.size)
    go_wp2_with fail
    with_reducible refine (E3.out _ _ hn10 d10).mono ?_
    rintro r w11 ⟨rfl, hb11⟩
    have d11 := d10.trans (hb11.mono d10.size)
    have d12 : Below W.heap.size W (w11.alloc (.cells #[.int .i64 0, .int .i64 0, .string S, .nilIface] 45)) := d11.alloc d11.size _
    have hn12 := E5.out w11
    go_wp2_with fail
    with_reducible refine (E4.out _ _ hn12 d12).mono ?_
    rintro r w13 ⟨rfl, hb13⟩
    have d13 := d12.trans (hb13.mono d12.size)
    go_wp2_with fail
    with_reducible refine (L.out _ d13).mono ?_
    rintro r w14 ⟨rfl, hb14⟩
    go_wp2_with fail
    go_ret
    exact ⟨rfl, d13.trans (hb14.mono d13.size)⟩
end Go.Proofs.YtgbgemgpdaclaaaDoor
