/-
  A range over a function that ranges over a function itself and calls its own loop's body in the rounds: what such a function owes (SeqStopsO: the loop's invariant abides the turn of whatever is no cells and was laid since; each round keeps whatever lies beyond the call), and the law of a loop over it. No program is named.
-/
import Derived.RangeFuncNested
import Derived.RangeFuncBound
import Derived.RangeFuncCalls
import Derived.RangeFuncLeaves
import Derived.Test.YtlnffpofbfigaaaGreatDoorM2359aa93
namespace Go.Proofs.YtlnffpofbfigaaaGreatDoor
open Go.RowKit

/-- Whatever lies at or beyond block B lies as it lay. -/
structure KeepsAt (B : Nat) (X Y : World) : Prop where
  size : X.heap.size ≤ Y.heap.size
  same : ∀ (k : Nat) (o : Obj), B ≤ k → X.heap[k]? = some o → Y.heap[k]? = some o
theorem KeepsAt.refl (B : Nat) (X : World) : KeepsAt B X X := ⟨Nat.le_refl _, fun _ _ _ h => h⟩
theorem KeepsAt.trans {B : Nat} {X Y Z : World} (h : KeepsAt B X Y) (k : KeepsAt B Y Z) : KeepsAt B X Z := ⟨Nat.le_trans h.size k.size, fun i o hB hi => k.same i o hB (h.same i o hB hi)⟩
theorem KeepsAt.mono {B B' : Nat} {X Y : World} (h : KeepsAt B X Y) (hB : B ≤ B') : KeepsAt B' X Y := ⟨h.size, fun i o hi ho => h.same i o (Nat.le_trans hB hi) ho⟩
theorem KeepsAt.of_grownBy {B : Nat} {X Y : World} {row : Option Nat} (hg : X.grownBy Y row) (hr : ∀ j, row = some j → j < B) : KeepsAt B X Y :=
  ⟨hg.size, fun k o hB hk => (hg.block k (Array.getElem?_eq_some_iff.1 hk).1 (fun e => by have := hr k e.symm; omega)).trans hk⟩
theorem KeepsAt.grown {B : Nat} {X Y : World} (hg : X.grownBy Y none) : KeepsAt B X Y := KeepsAt.of_grownBy hg (by simp)
theorem KeepsAt.alloc (B : Nat) (X : World) (o : Obj) : KeepsAt B X (X.alloc o) := KeepsAt.grown (World.grownBy_alloc X o none)
theorem KeepsAt.drew (B : Nat) (X : World) : KeepsAt B X X.drew := ⟨Nat.le_refl _, fun _ _ _ h => h⟩
theorem KeepsAt.setCell {B : Nat} (X : World) {b : Nat} (hb : b < B) (v : Value) : KeepsAt B X (X.setCell ⟨b, 0, none⟩ v) := KeepsAt.of_grownBy (grownBy_setCell' X b v) (fun j e => by cases e; exact hb)
theorem KeepsAt.putObj {B : Nat} (X : World) {b : Nat} (hb : b < B) (o : Obj) : KeepsAt B X (X.putObj b o) := KeepsAt.of_grownBy (grownBy_putObj' X b o) (fun j e => by cases e; exact hb)
theorem KeepsAt.block {B : Nat} {X Y : World} (h : KeepsAt B X Y) {k : Nat} (hB : B ≤ k) (hk : k < X.heap.size) : Y.heap[k]? = X.heap[k]? := by
  rw [Array.getElem?_eq_getElem hk]
  exact h.same k _ hB (Array.getElem?_eq_getElem hk)
theorem KeepsAt.keeps {B : Nat} {X Y : World} (h : KeepsAt B X Y) : KeepsFrom B X Y := ⟨h.size, fun k o hB ho _ => h.same k o hB ho⟩

def SeqStopsO {α : Type} (F : Fence) (n : Nat) (P : Program) (g : Nat) (lb : Array Value) (encs : α → Array Value) (Kp : World → World → Prop) (S Sp : List α → Prop) (N : Nat) (w : World) : Prop :=
  ∀ (l : Nat) (J Jx : List α → World → Prop) (W : World), Below w.heap.size w W → OwnFrom W.heap.size J → OwnFrom W.heap.size Jx →
    (∀ pre x W1, J pre W1 → pre.length < N → YieldAt F (n - 1) P l (encs x) W1 fun e W' =>
      ((e = .returned (.bool true) ∧ J (pre ++ [x]) W' ∧ Kp W1 W') ∨ (e = .returned (.bool false) ∧ Jx (pre ++ [x]) W')) ∧ KeepsAt W.heap.size W1 W') →
    J [] W →
    CallsIn F n P g (#[.func (.yield l) #[] #[]] ++ lb) W fun e W' => (∃ v, e = .returned v) ∧ ((∃ xs, S xs ∧ J xs W') ∨ (∃ pre, Sp pre ∧ Jx pre W'))

/-- How the body of a round may be left. -/
def ownPostO {α : Type} (B : Nat) (Kp : World → World → Prop) (I : List α → World → Prop) (Ix : Code → List α → World → Prop) (xs : List α) (W : World) : Exit → Act → World → Prop
  | .normal, _, W' => KeepsAt B W W' ∧ Kp W W' ∧ I xs W'
  | .ret, _, W' => KeepsAt B W W' ∧ Ix .ret xs W'
  | .exit id, _, W' => KeepsAt B W W' ∧ Ix (.exit id) xs W'
  | .goto t, _, W' => KeepsAt B W W' ∧ Ix (.goto t) xs W'
  | .panic _, _, _ => False
  | .outgrown, _, _ => False

variable {F : Fence} {n : Nat} {P : Program}

theorem wpIn_rangeFunc_ownO {α : Type} {g : Operand} {ps : Array Tmp} {assign body : Code} {Q : Exit → Act → World → Prop} {a : Act} {w : World}
    (hro : F.round = none) (h1 : 1 ≤ n) {gf : Nat} {lb : Array Value} (hg : a.eval g = .func (.func gf) #[] lb) (hFg : F.fn gf) (eg : ∀ args w, (callFunc gf args).run P w = .ok (.enter gf args) w)
    {encs : α → Array Value} {Kp : World → World → Prop} {S Sp : List α → Prop} {N : Nat} {w0 : World} (hseq : SeqStopsO F (n - 1) P gf lb encs Kp S Sp N w0)
    (hKt : ∀ {A B C : World}, Kp A B → Kp B C → Kp A C) (hKb : ∀ (W : World) (l : Nat) (o o' : Obj), w.heap.size ≤ l → W.heap[l]? = some o → o.isCells = false → Kp W (W.putObj l o')) (hb0 : Below w0.heap.size w0 w) (hps : ∀ x, (encs x).size = ps.size)
    (I : List α → World → Prop) (Ix : Code → List α → World → Prop) (hI : OwnFrom w.heap.size I) (hIx : ∀ c, OwnFrom w.heap.size (Ix c)) (h0 : I [] w) (Ax : α → Act → World → Prop) (hAx : ∀ x a', OwnFrom w.heap.size (fun (_ : Unit) W => Ax x a' W))
    (hassign : ∀ (l : Nat) (pre : List α) (x : α) (W : World) (K : Act → World → Prop), I pre W → (∀ a' W', KeepsAt w.heap.size W W' → Kp W W' → I pre W' → Ax x a' W' → K a' W') →
      assign.wpIn (F.inRound l) (n - 1 - 1) P (Exit.then K (fun _ _ _ => False)) { tmps := (ps.zip (encs x)).foldl (fun t (p, v) => t.setIfInBounds p v) a.tmps, defers := [] } W)
    (hbody : ∀ (l : Nat) (pre : List α) (x : α) (a' : Act) (W : World), w.heap.size ≤ l → (∃ r, W.heap[l]? = some (.loop r)) → I pre W → Ax x a' W → pre.length < N → body.wpIn (F.inRound l) (n - 1 - 1) P (ownPostO w.heap.size Kp I Ix (pre ++ [x]) W) a' W)
    (hdone : ∀ (D : Nat) (xs : List α) (W : World), w.heap.size ≤ D → S xs → I xs W → W.heap[D]? = some (.deferred (some [])) → Q .normal { a with defers := { target := .collected D, args := #[] } :: a.defers } W)
    (hstop : ∀ (D : Nat) (c : Code) (pre : List α) (W : World), w.heap.size ≤ D → Sp pre → Ix c pre W → W.heap[D]? = some (.deferred (some [])) → c.wpIn F n P Q { a with defers := { target := .collected D, args := #[] } :: a.defers } W) :
    (Code.rangeFunc g ps assign body).wpIn F n P Q a w := by
  refine wpIn_rangeFunc fun fn hfn => ?_
  rw [hro]
  generalize hs : w.heap.size = s at *
  obtain ⟨rec, hrec⟩ : ∃ rec : LoopState → Option Code → Loop, rec = fun st pe => { state := st, pending := pe, fn, tmps := a.tmps, params := ps, assign, body, defers := s } := ⟨_, rfl⟩
  obtain ⟨V, hV⟩ : ∃ V, (w.alloc (.deferred (some []))).alloc (.loop (rec .ready none)) = V := ⟨_, rfl⟩
  have hVs : V.heap.size = s + 2 := by rw [← hV]; simp [hs]
  have hVl : V.heap[s + 1]? = some (.loop (rec .ready none)) := by
    rw [← hV, ← hs]
    have := World.alloc_heap_new (w.alloc (.deferred (some []))) (.loop (rec .ready none))
    rwa [World.size_alloc] at this
  have hVd : V.heap[s]? = some (.deferred (some [])) := by
    rw [← hV, ← hs]
    exact (Below.heap_alloc _ _ _ (by simp)).trans (World.alloc_heap_new w _)
  have hVi : I [] V := by rw [← hV]; exact hI.alloc _ (hI.alloc _ h0)
  have hVb : Below w0.heap.size w0 V := by
    have := hb0.size
    rw [← hV]; exact hb0.trans ((((Below.refl _ w).alloc (Nat.le_refl _) _).alloc (by simp) _).mono this)
  refine ⟨s + 1, [{ target := .collected s, args := #[] }], V, { target := .fn (.func gf) lb, args := #[.func (.yield (s + 1)) #[] #[]] }, V, gf, #[.func (.yield (s + 1)) #[] #[]] ++ lb, V, ?_, ?_, ?_, ?_, fun _ => h1, ?_⟩
  · rw [← hV, hrec, ← hs]; exact run_enterLoop_outer _ _ _ _ _
  · simp only [resolve, hg]
    simp [go_sem]
  · intro f' hf'
    simp [Target.leads] at hf'
    subst hf'
    exact hFg
  · simp [invoke, go_sem, eg]
  have up : ∀ {A : World} {row : Option Nat}, (∀ r, row = some r → V.heap.size ≤ r ∧ ∃ o : Obj, A.heap[r]? = some o ∧ o.isCells = false) → (∀ r, row = some r → s ≤ r ∧ ∃ o : Obj, A.heap[r]? = some o ∧ o.isCells = false) :=
    fun hr r e => ⟨by have := (hr r e).1; omega, (hr r e).2⟩
  have st : ∀ {A B : World} {row : Option Nat} {k : Nat} {o : Obj}, A.grownBy B row → (∀ r, row = some r → V.heap.size ≤ r ∧ ∃ o : Obj, A.heap[r]? = some o ∧ o.isCells = false) → k ≤ s + 1 → A.heap[k]? = some o → B.heap[k]? = some o :=
    fun hg' hr hk ho => (hg'.block _ (Array.getElem?_eq_some_iff.1 ho).1 (fun e => by have := (hr _ e.symm).1; omega)).trans ho
  refine (hseq (s + 1)
    (fun pre W => I pre W ∧ W.heap[s + 1]? = some (.loop (rec .ready none)) ∧ W.heap[s]? = some (.deferred (some [])))
    (fun pre W => ∃ c, Ix c pre W ∧ W.heap[s + 1]? = some (.loop (rec .done (some c))) ∧ W.heap[s]? = some (.deferred (some [])))
    V hVb
    (fun t A B row h hg' hr => ⟨hI t A B row h.1 hg' (up hr), st hg' hr (Nat.le_refl _) h.2.1, st hg' hr (by omega) h.2.2⟩)
    (fun t A B row h hg' hr => by
      obtain ⟨c, h1, h2, h3⟩ := h
      exact ⟨c, hIx c t A B row h1 hg' (up hr), st hg' hr (Nat.le_refl _) h2, st hg' hr (by omega) h3⟩)
    ?_ ⟨hVi, hVl, hVd⟩).mono ?_
  · rintro pre x W ⟨hi, hl, hd⟩ hlen
    have hy := run_yield (P := P) (args := encs x) hl (by rw [hrec]; exact hps x)
    rw [hrec] at hy
    refine ⟨fn, _, assign, body, hy, roundIn_of_wpIn hfn (hassign _ pre x W _ hi fun a' Wa hka hpa hia hxa => ?_)⟩
    clear hy
    have hla := hka.same _ _ (by omega) hl
    have hda := hka.same _ _ (Nat.le_refl _) hd
    have hlt : s + 1 < Wa.heap.size := (Array.getElem?_eq_some_iff.1 hla).1
    refine ⟨_, run_beginRound hla (by rw [hrec]), ?_⟩
    obtain ⟨Wb, hWb⟩ : ∃ Wb, Wa.putObj (s + 1) (.loop { rec .ready none with state := .busy }) = Wb := ⟨_, rfl⟩
    have hlb : Wb.heap[s + 1]? = some (.loop { rec .ready none with state := .busy }) := by rw [← hWb]; exact World.putObj_heap_same hlt
    have hdb : Wb.heap[s]? = some (.deferred (some [])) := by rw [← hWb]; exact (World.putObj_heap_other (by omega)).trans hda
    have hpb : Kp Wa Wb := by rw [← hWb]; exact hKb _ _ _ _ (by omega) hla rfl
    have hib : I pre Wb := by rw [← hWb]; exact hI.putObj _ hia (by omega) hla rfl
    have hxb : Ax x a' Wb := by rw [← hWb]; exact (hAx x a').putObj (s := ()) _ hxa (by omega) hla rfl
    have hkb : KeepsAt V.heap.size Wa Wb := by rw [← hWb]; exact KeepsAt.putObj _ (by omega) _
    rw [hWb]
    refine wpIn_mono (hbody _ pre x a' Wb (by omega) ⟨_, hlb⟩ hib hxb hlen) ?_
    have fin : ∀ (jump : Option Code) (W3 : World), KeepsAt s Wb W3 → ∃ W4, (Instr.endRound (s + 1) jump).run P W3 = .ok (.bool jump.isNone) W4 ∧ W4 = W3.putObj (s + 1) (.loop (rec (if jump.isNone then .ready else .done) jump)) ∧
        W3.heap[s + 1]? = some (.loop { rec .ready none with state := .busy }) ∧ W4.heap[s + 1]? = some (.loop (rec (if jump.isNone then .ready else .done) jump)) ∧ W4.heap[s]? = some (.deferred (some [])) ∧ (Kp Wb W3 → Kp W W4) ∧ KeepsAt V.heap.size W W4 := fun jump W3 hk => by
      have h3 := hk.same _ _ (by omega) hlb
      have hr := run_endRound (P := P) jump h3
      refine ⟨_, ?_, rfl, h3, World.putObj_heap_same (Array.getElem?_eq_some_iff.1 h3).1, (World.putObj_heap_other (by omega)).trans (hk.same _ _ (Nat.le_refl _) hdb), fun hp => hKt hpa (hKt (hKt hpb hp) (hKb _ _ _ _ (by omega) h3 rfl)), (hka.mono (by omega)).trans (hkb.trans ((hk.mono (by omega)).trans (KeepsAt.putObj _ (by omega) _)))⟩
      rw [hrec] at hr ⊢
      exact hr
    rintro e a3 W3 hp
    cases e with
    | normal =>
      obtain ⟨hk, hp3, hi3⟩ := hp
      obtain ⟨W4, hr, e4, h3, h4, h5, h6, h7⟩ := fin none W3 hk
      exact ⟨_, _, hr, .inl ⟨rfl, ⟨by rw [e4]; exact hI.putObj _ hi3 (by omega) h3 rfl, h4, h5⟩, h6 hp3⟩, h7⟩
    | ret =>
      obtain ⟨hk, hi3⟩ := hp
      obtain ⟨W4, hr, e4, h3, h4, h5, _, h7⟩ := fin (some .ret) W3 hk
      exact ⟨_, _, hr, .inr ⟨rfl, .ret, by rw [e4]; exact (hIx _).putObj _ hi3 (by omega) h3 rfl, h4, h5⟩, h7⟩
    | exit id =>
      obtain ⟨hk, hi3⟩ := hp
      obtain ⟨W4, hr, e4, h3, h4, h5, _, h7⟩ := fin (some (.exit id)) W3 hk
      exact ⟨_, _, hr, .inr ⟨rfl, .exit id, by rw [e4]; exact (hIx _).putObj _ hi3 (by omega) h3 rfl, h4, h5⟩, h7⟩
    | goto t =>
      obtain ⟨hk, hi3⟩ := hp
      obtain ⟨W4, hr, e4, h3, h4, h5, _, h7⟩ := fin (some (.goto t)) W3 hk
      exact ⟨_, _, hr, .inr ⟨rfl, .goto t, by rw [e4]; exact (hIx _).putObj _ hi3 (by omega) h3 rfl, h4, h5⟩, h7⟩
    | panic ch => exact hp.elim
    | outgrown => exact hp.elim
  · rintro e W2 ⟨⟨v, rfl⟩, (⟨xs, hS, hi, hl, hd⟩ | ⟨pre, hSp, c, hi, hl, hd⟩)⟩
    · refine ⟨none, _, by have := run_endLoop (P := P) hl (by rw [hrec]; simp); rw [hrec] at this; exact this, hdone _ xs _ (Nat.le_refl _) hS (hI.putObj _ hi (by omega) hl rfl) ((World.putObj_heap_other (by omega)).trans hd)⟩
    · refine ⟨some c, _, by have := run_endLoop (P := P) hl (by rw [hrec]; simp); rw [hrec] at this; exact this, hstop _ c pre _ (Nat.le_refl _) hSp ((hIx c).putObj _ hi (by omega) hl rfl) ((World.putObj_heap_other (by omega)).trans hd)⟩

end Go.Proofs.YtlnffpofbfigaaaGreatDoor
