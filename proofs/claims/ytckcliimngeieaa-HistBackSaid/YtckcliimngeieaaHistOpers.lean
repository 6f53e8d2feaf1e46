/- The law HistOpers. -/
import Derived.Test.YtckcliimngeieaaHistLives
namespace Go.Proofs.Ytckcliimngeieaa
open Go.ChangeShapes Go.WideShapes Go.ChangeAt Go.RowKit

theorem histOpers_long (A : Option Addr) (c : Nat) (L : List Ev) (h : 200 < L.length) (hL : L.length ≤ 9223372036854775807) (w : World) :
    Calls Try.prog 3 #[.slice A L.length c] w fun e w' => e = .returned (.bool true) ∧ Below w.heap.size w w' := by
  have C9 := Lib.hid fun W => lives14_any W
  generalize L.length = n at *
  go_enter Try.func3, Try.ntmps3
  go_wp2_with (go_at_call 6; refine (C9.out _).mono ?_; rintro e w' ⟨rfl, hb⟩)
  go_ret
  exact ⟨rfl, hb⟩
theorem opersL_len {L : List Ev} : (opersL L).length ≤ L.length := by
  unfold opersL
  cases mayL L
  · exact Nat.zero_le _
  · show (opsUp L L.length L.length).length ≤ _
    rw [opsUp_len]
    exact begAt_le L _
theorem openUp_len (L : List Opr) : ∀ i, (openUp L i).length ≤ i
  | 0 => Nat.le_refl _
  | i + 1 => by
    have := openUp_len L i
    unfold openUp
    cases decide ((oprN L i).to < 0)
    · simp only [cond]; omega
    · simp only [cond, List.length_append, List.length_cons, List.length_nil]; omega
theorem openUp_prefix (L : List Opr) {i : Nat} : ∀ {m : Nat}, i ≤ m → ∃ t, openUp L m = openUp L i ++ t
  | 0, h => ⟨[], by rw [show i = 0 by omega, List.append_nil]⟩
  | m + 1, h => by
    rcases Nat.lt_or_ge m i with h1 | h1
    · exact ⟨[], by rw [show i = m + 1 by omega, List.append_nil]⟩
    · obtain ⟨t, ht⟩ := openUp_prefix L (i := i) (m := m) h1
      rw [show openUp L (m + 1) = bif decide ((oprN L m).to < 0) then openUp L m ++ [(m : Int)] else openUp L m from rfl]
      cases decide ((oprN L m).to < 0)
      · exact ⟨t, ht⟩
      · exact ⟨t ++ [(m : Int)], by simp only [cond]; rw [ht, List.append_assoc]⟩
/-- The next of those that aren't answered. -/
theorem openUp_next {L : List Opr} {i m : Nat} (h : i < m) (ho : (oprN L i).to < 0) : (openUp L i).length < (openUp L m).length ∧ (openUp L m).getD (openUp L i).length 0 = i ∧ (openUp L (i + 1)).length = (openUp L i).length + 1 := by
  have h1 : openUp L (i + 1) = openUp L i ++ [(i : Int)] := by
    show (bif decide ((oprN L i).to < 0) then _ else _) = _
    rw [decide_eq_true ho]; rfl
  obtain ⟨t, ht⟩ := openUp_prefix L (i := i + 1) (m := m) h
  rw [ht, h1]
  refine ⟨by simp, ?_, by simp⟩
  simp [List.getD]
theorem openUp_skip {L : List Opr} {i : Nat} (ho : ¬ (oprN L i).to < 0) : openUp L (i + 1) = openUp L i := by
  show (bif decide ((oprN L i).to < 0) then _ else _) = _
  rw [decide_eq_false ho]; rfl

set_option maxHeartbeats 4000000 in
theorem histOpers_short (A : Option Addr) (c : Nat) (L : List Ev) (hL : L.length ≤ 200) (w : World) (ha : LiesC w A (flatF evF L)) :
    Calls Try.prog 3 #[.slice A L.length c] w fun e w' => e = .returned (.bool true) ∧ Below w.heap.size w w' := by
  have C9 := Lib.hid fun W => lives14_any W
  have C1 := Lib.hid (fun W h => hOpers_any A c L (by omega) W h)
  have C2 := Lib.hid (fun W h => r14Opers_any A c L (by omega) W h)
  have C3 := Lib.hid (fun W h => hMay_any A c L (by omega) W h)
  have C4 := Lib.hid (fun W h => r14May_any A c L (by omega) W h)
  have hm := opersL_len (L := L)
  generalize hO : opersL L = O at *
  have C5 := Lib.hid (fun A B c d W h1 h2 => r14Opersame_any A B c d O O (by omega) (by omega) W h1 h2)
  have C6 := Lib.hid (fun A c W h => hOpen_any A c O (by omega) W h)
  simp only [decide_true] at C5
  have hol := openUp_len O O.length
  have HX := Lib.hid (fun i => openUp_next (L := O) (i := i) (m := O.length))
  have HA := Lib.hid ha
  clear ha hO
  generalize mayL L = ml at *
  generalize L.length = n at *
  generalize hml : O.length = m at *
  generalize hon : (openUp O m).length = on at *
  go_enter Try.func3, Try.ntmps3
  go_upto_region 4 with (go_at_call 7; refine (C1.out _ HA.out).mono ?_; rintro e w1 ⟨v1, rfl, ⟨A1, c1, rfl, x1, x2, x3, d1, d2⟩, hf, hb⟩; have HB1 := Lib.hid hb; have HD1 := Lib.hid d1; clear x1 x2 x3 d1 d2 hf hb)
  go_upto_region 5 with (go_at_call 8; refine (C2.out _ (HA.out.keep HB1.out)).mono ?_; rintro e w2 ⟨v2, rfl, ⟨A2, c2, rfl, x1, x2, x3, d1, d2⟩, hf, hb⟩; have HB2 := Lib.hid (HB1.out.trans (hb.mono HB1.out.size)); have HD2 := Lib.hid d1; replace HD1 := Lib.hid (HD1.out.keep hb); clear HB1 x1 x2 x3 d1 d2 hf hb)
  go_upto_region 7 with (first
    | (go_at_call 9; refine (C3.out _ (HA.out.keep HB2.out)).mono ?_; rintro e w3 ⟨rfl, hb⟩; have HB3 := Lib.hid (HB2.out.trans (hb.mono HB2.out.size)); replace HD1 := Lib.hid (HD1.out.keep hb); replace HD2 := Lib.hid (HD2.out.keep hb); clear HB2 hb)
    | (go_at_call 10; refine (C4.out _ (HA.out.keep HB3.out)).mono ?_; rintro e w4 ⟨rfl, hb⟩; have HB4 := Lib.hid (HB3.out.trans (hb.mono HB3.out.size)); replace HD1 := Lib.hid (HD1.out.keep hb); replace HD2 := Lib.hid (HD2.out.keep hb); clear HB3 hb)
    | (go_at_call 11; refine (C5.out _ _ _ _ _ HD1.out HD2.out).mono ?_; rintro e w5 ⟨rfl, hd⟩; have hb := hd.below w4.heap.size; have HB5 := Lib.hid (HB4.out.trans (hb.mono HB4.out.size)); replace HD2 := Lib.hid (HD2.out.keep hb); clear HB4 hb HD1 hd))
  go_upto_region 8 with (go_at_call 12; refine (C6.out _ _ _ HD2.out).mono ?_; rintro e w6 ⟨v6, rfl, ⟨A6, c6, rfl, x1, x2, x3, d1, d2⟩, hf, hb⟩; have HB6 := Lib.hid (HB5.out.trans (hb.mono HB5.out.size)); have HD6 := Lib.hid d1; replace HD2 := Lib.hid (HD2.out.keep hb); clear HB5 x1 x2 x3 d1 d2 hf hb)
  go_wp2_with fail
  go_loopw [6, 7] (fun s i wr => ∃ k : Nat, i = .int .i64 k ∧ k ≤ m ∧ s = .int .i64 ((openUp O k).length : Nat) ∧ Drew w6 wr) (fun _ i _ => m - (intOf i).toNat)
  case atStart => exact ⟨0, rfl, Nat.zero_le _, rfl, Drew.refl _⟩
  case round =>
    obtain ⟨k, rfl, hk, rfl, hd⟩ := hrel
    by_cases hlt : k < m
    · obtain ⟨b2, off2, rfl, _, y2⟩ := (HD2.out.keep (hd.below _)).atO (by omega)
      have p15 : wr.cell? ⟨b2, off2 + k * 16 + 15, none⟩ = some (.int .i64 (oprN O k).to) := y2 k (by omega) 15 (by omega)
      have HD := Lib.hid hd
      have HS := Lib.hid (openUp_skip (L := O) (i := k))
      clear y2 hd
      by_cases ho : (oprN O k).to < 0
      · obtain ⟨n1, n2, n3⟩ := HX.out k hlt ho
        obtain ⟨b6, off6, rfl, _, y6⟩ := (HD6.out.keep (HD.out.below _)).atI (by omega)
        have p6 := y6 (openUp O k).length (by omega)
        rw [n2] at p6
        have HN3 := Lib.hid n3
        clear y6 HX n2 n3
        generalize hok : (openUp O k).length = ok at *
        have h2 : decide ((ok : Int) ≥ (on : Int)) = false := decide_eq_false (by omega)
        generalize (oprN O k).to = t2 at *
        go_wp2_with fail
        go_roundw
        case rel => exact ⟨k + 1, by go_num, by omega, by rw [HN3.out]; go_num, HD.out⟩
        case measure => simp [intOf]; omega
      · have HN3 := Lib.hid (HS.out ho)
        clear HX HS
        generalize (oprN O k).to = t2 at *
        go_wp2_with fail
        go_roundw
        case rel => exact ⟨k + 1, by go_num, by omega, by rw [HN3.out], HD.out⟩
        case measure => simp [intOf]; omega
    · obtain rfl : k = m := by omega
      rw [hon]
      have HD := Lib.hid hd; clear hd HX
      go_wp2_with (go_at_call 6; refine (C9.out _).mono ?_; rintro e w' ⟨rfl, hb⟩; have HB := Lib.hid hb; clear hb)
      go_ret
      exact ⟨rfl, HB6.out.trans (((HD.out.below w6.heap.size).trans (HB.out.mono (HD.out.below w6.heap.size).size)).mono HB6.out.size)⟩
theorem histOpers_walk (A : Option Addr) (c : Nat) (L : List Ev) (hL : L.length ≤ 9223372036854775807) (w : World) (ha : LiesC w A (flatF evF L)) :
    Calls Try.prog 3 #[.slice A L.length c] w fun e w' => e = .returned (.bool true) ∧ Below w.heap.size w w' := by
  by_cases h : 200 < L.length
  · exact histOpers_long A c L h hL w
  · exact histOpers_short A c L (by omega) w ha
end Go.Proofs.Ytckcliimngeieaa
