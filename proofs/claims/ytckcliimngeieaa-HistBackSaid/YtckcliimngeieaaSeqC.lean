/- A range over a function whose iterator keeps what it counts in blocks of its own: K blocks that it lays first. -/
import Derived.RangeFuncNested
import Derived.RangeFuncBound
import Derived.RangeFuncCalls
import Derived.RangeFuncLeaves
import Derived.Shelf.Abstract
import Derived.Shelf.RegionOpen
import Derived.WalkKit
import Derived.OwnWalkIn
import Derived.TacticsInMore
import Derived.LoopNIn
import Derived.LoopIn
import Derived.Test.YtckcliimngeieaaFrame
namespace Go.Proofs.Ytckcliimngeieaa
open Go.RowKit Go.Shelf

/-- What is said of a world stays, whatever turns of the blocks from B to g. -/
def AbC {β : Type} (B g : Nat) (J : β → World → Prop) : Prop := ∀ s W W', J s W → Only (fun i => B ≤ i ∧ i < g) W W' → J s W'
/-- What a round may turn: what it may turn at all, what was made ahead of the loop, and what came behind the iterator's own blocks, as far as it was there when what the rounds keep was last seen. -/
def Rnd (M : Nat → Prop) (a b c d : Nat) (i : Nat) : Prop := M i ∨ (a ≤ i ∧ i < b) ∨ (c ≤ i ∧ i < d)
/-- The same, as a body is told of it: its own blocks too. -/
def Bdy (M : Nat → Prop) (c d n : Nat) (i : Nat) : Prop := M i ∨ (c ≤ i ∧ i < d) ∨ n ≤ i
/-- What is handed to whom ranges tells what S says, one by one (what was told so far is Pr's), till nobody wants more. -/
def SeqC {α : Type} (F : Fence) (n : Nat) (P : Program) (g : Nat) (lb : Array Value) (encs : α → Array Value) (M : Nat → Prop) (K : Nat) (S Pr : List α → Prop) (w : World) : Prop :=
  ∀ (l : Nat) (J Jx : List α → World → Prop) (W : World), Below w.heap.size w W → AbC W.heap.size (W.heap.size + K) J → AbC W.heap.size (W.heap.size + K) Jx →
    (∀ pre x W0 W1, W.heap.size + K ≤ W1.heap.size → J pre W0 → Only (fun i => W.heap.size ≤ i ∧ i < W.heap.size + K) W0 W1 → Pr (pre ++ [x]) → YieldAt F (n - 1) P l (encs x) W1 fun e W' =>
      (e = .returned (.bool true) ∧ J (pre ++ [x]) W' ∧ Only (Rnd M w.heap.size W.heap.size (W.heap.size + K) W0.heap.size) W1 W') ∨ (e = .returned (.bool false) ∧ Jx (pre ++ [x]) W')) →
    J [] W →
    CallsIn F n P g (#[.func (.yield l) #[] #[]] ++ lb) W fun e W' => (∃ v, e = .returned v) ∧ ((∃ xs, S xs ∧ J xs W') ∨ (∃ pre, Pr pre ∧ Jx pre W'))
/-- How a round's body may be left. -/
def postC {α : Type} (MM : Nat → Prop) (I : List α → World → Prop) (Ix : Code → List α → World → Prop) (xs : List α) (W : World) : Exit → Act → World → Prop
  | .normal, _, W' => Only MM W W' ∧ I xs W'
  | .ret, _, W' => Only MM W W' ∧ Ix .ret xs W'
  | .exit id, _, W' => Only MM W W' ∧ Ix (.exit id) xs W'
  | .goto t, _, W' => Only MM W W' ∧ Ix (.goto t) xs W'
  | .panic _, _, _ => False
  | .outgrown, _, _ => False

theorem only_put {M : Nat → Prop} (W : World) (l : Nat) (o : Obj) (h : M l) : Only M W (W.putObj l o) :=
  ⟨(Below.refl 0 W).grown (grownBy_putObj' W l o) (Nat.zero_le _) (fun _ _ => Nat.zero_le _), fun i hi hn => (grownBy_putObj' W l o).block i hi (fun e => by cases e; exact hn h)⟩
theorem AbC.alloc {β : Type} {B g : Nat} {J : β → World → Prop} (h : AbC B g J) {s : β} {W : World} (o : Obj) (hs : J s W) : J s (W.alloc o) := h s W _ hs (only_below ((Below.refl _ W).alloc (Nat.le_refl _) o) _)
theorem AbC.below {β : Type} {B g : Nat} {J : β → World → Prop} (h : AbC B g J) {s : β} {W W' : World} (hs : J s W) (hb : Below W.heap.size W W') : J s W' := h s W _ hs (only_below hb _)
theorem AbC.put {β : Type} {B g : Nat} {J : β → World → Prop} (h : AbC B g J) {s : β} {W : World} {l : Nat} (o : Obj) (hs : J s W) (h1 : B ≤ l) (h2 : l < g) : J s (W.putObj l o) := h s W _ hs (only_put W l o ⟨h1, h2⟩)
theorem AbC.and {β : Type} {B g : Nat} {I J : β → World → Prop} (h : AbC B g I) (k : AbC B g J) : AbC B g (fun s W => I s W ∧ J s W) := fun s W W' hs ho => ⟨h s W W' hs.1 ho, k s W W' hs.2 ho⟩
theorem AbC.pure {β : Type} (B g : Nat) (p : β → Prop) : AbC B g (fun s (_ : World) => p s) := fun _ _ _ h _ => h

variable {F : Fence} {n : Nat} {P : Program}

/-- The law: what holds ahead of the loop, and behind each round, holds behind all of them. -/
theorem wpIn_rangeC {α : Type} {g : Operand} {ps : Array Tmp} {assign body : Code} {Q : Exit → Act → World → Prop} {a : Act} {w : World}
    (hro : F.round = none) (h1 : 1 ≤ n) {gf : Nat} {lb : Array Value} (hg : a.eval g = .func (.func gf) #[] lb) (hFg : F.fn gf) (eg : ∀ args w, (callFunc gf args).run P w = .ok (.enter gf args) w)
    {encs : α → Array Value} {M : Nat → Prop} {K : Nat} {S Pr : List α → Prop} {w0 : World} (hseq : SeqC F (n - 1) P gf lb encs M K S Pr w0) (hb0 : Below w0.heap.size w0 w) (hM : ∀ i, M i → i < w.heap.size) (hps : ∀ x, (encs x).size = ps.size)
    (I : List α → World → Prop) (Ix : Code → List α → World → Prop) (hI : AbC w.heap.size (w.heap.size + 2 + K) I) (hIx : ∀ c, AbC w.heap.size (w.heap.size + 2 + K) (Ix c)) (h0 : I [] w)
    (Ax : α → Act → World → Prop) (hAx : ∀ x a', AbC w.heap.size (w.heap.size + 2 + K) (fun (_ : Unit) W => Ax x a' W))
    (hassign : ∀ (l : Nat) (pre : List α) (x : α) (W : World) (C : Act → World → Prop), w.heap.size + 2 + K ≤ W.heap.size → I pre W →
      (∀ a' W', Below W.heap.size W W' → Ax x a' W' → C a' W') →
      assign.wpIn (F.inRound l) (n - 1 - 1) P (Exit.then C (fun _ _ _ => False)) { tmps := (ps.zip (encs x)).foldl (fun t (p, v) => t.setIfInBounds p v) a.tmps, defers := [] } W)
    (hbody : ∀ (l : Nat) (pre : List α) (x : α) (a' : Act) (W0 W : World) (n1 : Nat), w.heap.size + 2 + K ≤ n1 → W0.heap.size ≤ n1 → n1 ≤ W.heap.size → I pre W0 → Only (fun i => w.heap.size ≤ i ∧ i < w.heap.size + 2 + K) W0 W → Ax x a' W → Pr (pre ++ [x]) →
      body.wpIn (F.inRound l) (n - 1 - 1) P (postC (Bdy M (w.heap.size + 2 + K) W0.heap.size n1) I Ix (pre ++ [x]) W) a' W)
    (hdone : ∀ (xs : List α) (W : World), S xs → I xs W → W.heap[w.heap.size]? = some (.deferred (some [])) → Q .normal { a with defers := { target := .collected w.heap.size, args := #[] } :: a.defers } W)
    (hstop : ∀ (c : Code) (pre : List α) (W : World), Pr pre → Ix c pre W → W.heap[w.heap.size]? = some (.deferred (some [])) → c.wpIn F n P Q { a with defers := { target := .collected w.heap.size, args := #[] } :: a.defers } W) :
    (Code.rangeFunc g ps assign body).wpIn F n P Q a w := by
  refine wpIn_rangeFunc fun fn hfn => ?_
  rw [hro]
  obtain ⟨B, hB⟩ : ∃ B, w.heap.size = B := ⟨_, rfl⟩
  rw [hB] at hI hIx hAx hassign hbody hdone hstop hM
  -- the record, by its state and what is pending
  obtain ⟨rec, hrec⟩ : ∃ rec : LoopState → Option Code → Loop, rec = fun st pe => { state := st, pending := pe, fn, tmps := a.tmps, params := ps, assign, body, defers := B } := ⟨_, rfl⟩
  obtain ⟨W1, hW1⟩ : ∃ W1, (w.alloc (.deferred (some []))).alloc (.loop (rec .ready none)) = W1 := ⟨_, rfl⟩
  have hs1 : W1.heap.size = B + 2 := by rw [← hW1]; simp [hB]
  have hbW : Below w.heap.size w W1 := by rw [← hW1]; exact ((Below.refl _ w).alloc (Nat.le_refl _) _).alloc (by simp) _
  have hL1 : W1.heap[B + 1]? = some (.loop (rec .ready none)) := by
    have := World.alloc_heap_new (w.alloc (.deferred (some []))) (.loop (rec .ready none))
    rw [World.size_alloc, hB, hW1] at this
    exact this
  have hK1 : W1.heap[B]? = some (.deferred (some [])) := by
    rw [← hW1, ← hB]
    exact (Below.heap_alloc _ _ _ (by simp)).trans (World.alloc_heap_new w _)
  have hfar : ∀ {X Y : World} {d n1 i : Nat} {o : Obj}, Only (Bdy M (B + 2 + K) d n1) X Y → X.heap[i]? = some o → B ≤ i → i < B + 2 → B + 2 ≤ n1 → Y.heap[i]? = some o := fun ho h h1 h2 h3 =>
    (ho.block (Array.getElem?_eq_some_iff.1 h).1 (by
      rintro (h | h | h)
      · have := hM _ h; omega
      · omega
      · omega)).trans h
  have hfar2 : ∀ {X Y : World} {i : Nat} {o : Obj}, Only (fun i => W1.heap.size ≤ i ∧ i < W1.heap.size + K) X Y → X.heap[i]? = some o → i < B + 2 → Y.heap[i]? = some o := fun ho h h2 =>
    (ho.block (Array.getElem?_eq_some_iff.1 h).1 (by rintro ⟨h, -⟩; omega)).trans h
  have hin : ∀ {X Y : World}, Only (fun i => W1.heap.size ≤ i ∧ i < W1.heap.size + K) X Y → Only (fun i => B ≤ i ∧ i < B + 2 + K) X Y := fun ho => ho.mono fun i _ h => ⟨by omega, by omega⟩
  refine ⟨B + 1, [{ target := .collected B, args := #[] }], W1, { target := .fn (.func gf) lb, args := #[.func (.yield (B + 1)) #[] #[]] }, W1, gf, #[.func (.yield (B + 1)) #[] #[]] ++ lb, W1, ?_, ?_, ?_, ?_, fun _ => h1, ?_⟩
  · rw [← hW1, hrec, ← hB]; exact run_enterLoop_outer _ _ _ _ _
  · simp only [resolve, hg]
    simp [go_sem]
  · intro f' hf'
    simp [Target.leads] at hf'
    subst hf'
    exact hFg
  · simp [invoke, go_sem, eg]
  · refine (hseq (B + 1) (fun pre W => I pre W ∧ W.heap[B + 1]? = some (.loop (rec .ready none)) ∧ W.heap[B]? = some (.deferred (some [])))
      (fun pre W => ∃ c, Ix c pre W ∧ W.heap[B + 1]? = some (.loop (rec .done (some c))) ∧ W.heap[B]? = some (.deferred (some [])))
      W1 (hb0.trans (hbW.mono hb0.size)) (fun s X Y hs ho => ⟨hI s X Y hs.1 (hin ho), hfar2 ho hs.2.1 (by omega), hfar2 ho hs.2.2 (by omega)⟩)
      (fun s X Y ⟨c, h1, h2, h3⟩ ho => ⟨c, hIx c s X Y h1 (hin ho), hfar2 ho h2 (by omega), hfar2 ho h3 (by omega)⟩) ?_ ⟨hI.below h0 hbW, hL1, hK1⟩).mono ?_
    · -- a round
      rintro pre x V W hsz ⟨hiV, hlV, hkV⟩ hoV hlen
      have hi := hI _ _ _ hiV (hin hoV)
      have hl := hfar2 hoV hlV (by omega)
      have hk := hfar2 hoV hkV (by omega)
      have hy := run_yield (P := P) (args := encs x) hl (by rw [hrec]; exact hps x)
      rw [hrec] at hy
      refine ⟨fn, _, assign, body, hy, roundIn_of_wpIn hfn (hassign _ pre x W _ (by omega) hi ?_)⟩
      intro a' Wa hba hax
      have hla := (hba.block _ (Array.getElem?_eq_some_iff.1 hl).1).trans hl
      have hka := (hba.block _ (Array.getElem?_eq_some_iff.1 hk).1).trans hk
      refine ⟨_, run_beginRound hla (by rw [hrec]), ?_⟩
      have hlt : B + 1 < Wa.heap.size := (Array.getElem?_eq_some_iff.1 hla).1
      have hl2 : (Wa.putObj (B + 1) (.loop { rec .ready none with state := .busy })).heap[B + 1]? = some (.loop { rec .ready none with state := .busy }) := World.putObj_heap_same hlt
      have hk2 : (Wa.putObj (B + 1) (.loop { rec .ready none with state := .busy })).heap[B]? = some (.deferred (some [])) := (World.putObj_heap_other (by omega)).trans hka
      have ho2 : ∀ (X : World) (o : Obj), Only (Rnd M w0.heap.size W1.heap.size (W1.heap.size + K) V.heap.size) X (X.putObj (B + 1) o) := fun X o => only_put X _ o (.inr (.inl ⟨by have := hb0.size; omega, by omega⟩))
      have hoB : Only (fun i => B ≤ i ∧ i < B + 2 + K) V (Wa.putObj (B + 1) (.loop { rec .ready none with state := .busy })) := ((hin hoV).then hba).trans (only_put Wa _ _ ⟨by omega, by omega⟩)
      have hsa : (Wa.putObj (B + 1) (.loop { rec .ready none with state := .busy })).heap.size = Wa.heap.size := by simp [World.putObj]
      have hob : ∀ {Y : World}, Only (Bdy M (B + 2 + K) V.heap.size W.heap.size) (Wa.putObj (B + 1) (.loop { rec .ready none with state := .busy })) Y → Only (Rnd M w0.heap.size W1.heap.size (W1.heap.size + K) V.heap.size) W Y := fun {Y} ho =>
        ⟨(hba.mono (Nat.zero_le _)).trans ((ho2 Wa _).1.trans ho.1), fun i hi hn => by
          have e1 := hba.block i hi
          have e2 := (ho2 Wa (.loop { rec .ready none with state := .busy })).2 i (Nat.lt_of_lt_of_le hi hba.size) hn
          have e3 := ho.2 i (by rw [hsa]; exact Nat.lt_of_lt_of_le hi hba.size) (by
            rintro (h | h | h)
            · exact hn (.inl h)
            · exact hn (.inr (.inr ⟨by omega, by omega⟩))
            · omega)
          exact e3.trans (e2.trans e1)⟩
      refine wpIn_mono (hbody (B + 1) pre x a' V _ W.heap.size (by omega) hoV.size (by rw [hsa]; exact hba.size) hiV hoB ((hAx x a').put (s := ()) _ hax (by omega) (by omega)) hlen) ?_
      have fin : ∀ (jump : Option Code) (W3 : World), Only (Bdy M (B + 2 + K) V.heap.size W.heap.size) (Wa.putObj (B + 1) (.loop { rec .ready none with state := .busy })) W3 →
          (Instr.endRound (B + 1) jump).run P W3 = .ok (.bool jump.isNone) (W3.putObj (B + 1) (.loop (rec (if jump.isNone then .ready else .done) jump))) ∧
          (W3.putObj (B + 1) (.loop (rec (if jump.isNone then .ready else .done) jump))).heap[B + 1]? = some (.loop (rec (if jump.isNone then .ready else .done) jump)) ∧
          (W3.putObj (B + 1) (.loop (rec (if jump.isNone then .ready else .done) jump))).heap[B]? = some (.deferred (some [])) := fun jump W3 ho3 => by
        have hl3 := hfar ho3 hl2 (by omega) (by omega) (by omega)
        have hr := run_endRound (P := P) jump hl3
        rw [hrec] at hr ⊢
        exact ⟨hr, World.putObj_heap_same (Array.getElem?_eq_some_iff.1 hl3).1, (World.putObj_heap_other (by omega)).trans (hfar ho3 hk2 (by omega) (by omega) (by omega))⟩
      rintro e a3 W3 hp
      cases e with
      | normal =>
        obtain ⟨ho3, hi3⟩ := hp
        obtain ⟨hr, hl4, hk4⟩ := fin none W3 ho3
        exact ⟨_, _, hr, .inl ⟨rfl, ⟨hI.put _ hi3 (by omega) (by omega), hl4, hk4⟩, (hob ho3).trans (ho2 _ _)⟩⟩
      | ret =>
        obtain ⟨ho3, hi3⟩ := hp
        obtain ⟨hr, hl4, hk4⟩ := fin (some .ret) W3 ho3
        exact ⟨_, _, hr, .inr ⟨rfl, .ret, (hIx _).put _ hi3 (by omega) (by omega), hl4, hk4⟩⟩
      | exit id =>
        obtain ⟨ho3, hi3⟩ := hp
        obtain ⟨hr, hl4, hk4⟩ := fin (some (.exit id)) W3 ho3
        exact ⟨_, _, hr, .inr ⟨rfl, .exit id, (hIx _).put _ hi3 (by omega) (by omega), hl4, hk4⟩⟩
      | goto t =>
        obtain ⟨ho3, hi3⟩ := hp
        obtain ⟨hr, hl4, hk4⟩ := fin (some (.goto t)) W3 ho3
        exact ⟨_, _, hr, .inr ⟨rfl, .goto t, (hIx _).put _ hi3 (by omega) (by omega), hl4, hk4⟩⟩
      | panic ch => exact hp.elim
      | outgrown => exact hp.elim
    · -- behind the iterator
      rintro e W2 ⟨⟨v, rfl⟩, (⟨xs, hS, hi, hl, hk⟩ | ⟨pre, hSp, c, hi, hl, hk⟩)⟩
      · have hr := run_endLoop (P := P) hl (by rw [hrec]; simp)
        rw [hrec] at hr
        exact ⟨none, _, hr, hdone xs _ hS (hI.put _ hi (by omega) (by omega)) ((World.putObj_heap_other (by omega)).trans hk)⟩
      · have hr := run_endLoop (P := P) hl (by rw [hrec]; simp)
        rw [hrec] at hr
        exact ⟨some c, _, hr, hstop c pre _ hSp ((hIx c).put _ hi (by omega) (by omega)) ((World.putObj_heap_other (by omega)).trans hk)⟩
end Go.Proofs.Ytckcliimngeieaa
