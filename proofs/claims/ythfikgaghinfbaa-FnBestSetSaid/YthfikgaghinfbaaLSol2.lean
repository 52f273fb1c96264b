/-
  impl's solvedRows: the list of the rows that are solved, one slice of truths for each number of questions.
-/
import Derived.Test.YthfikgaghinfbaaLSol
import Derived.Outline
import Derived.Deep.RegionWith
import Derived.Deep.DeepCutAuto
import Derived.Laws.EntriesVeiled
namespace Go.Proofs.Ythfikgaghinfbaa
open Go.RowKit

/-- So many slices so far. -/
def SvRel (N L Q : Nat) (w : World) (i : Value) (wr : World) : Prop :=
  ∃ r : Nat, r ≤ Q ∧ i = .int .i64 r ∧ (∃ v, wr.cell? ⟨w.heap.size + 1 + 1, 0, none⟩ = some v ∧ wr.frozen? ⟨w.heap.size + 1 + 1, 0, none⟩ = false ∧ ListB wr (w.heap.size + 3) N L (r + 1) v) ∧ wr.cell? ⟨w.heap.size, 0, none⟩ = some (.int .i64 N) ∧ wr.cell? ⟨w.heap.size + 1, 0, none⟩ = some (.int .i64 L) ∧ w.heap.size + 3 ≤ wr.heap.size ∧ w.grownBy wr none
def SolPost (N L Q : Nat) (w : World) (e : Ending) (w' : World) : Prop := ∃ v, e = .returned v ∧ ListB w' w.heap.size N L (Q + 1) v ∧ w.grownBy w' none
theorem lgrow_at {w wb w2 : World} {g : Nat} (h : w.grownBy wb none) (k : wb.grownBy w2 (some g)) (hg : w.heap.size ≤ g) : w.grownBy w2 none :=
  ⟨k.os.trans h.os, k.tape.trans h.tape, k.output.trans h.output, Nat.le_trans h.size k.size,
    fun i hi _ => (k.block i (Nat.lt_of_lt_of_le hi h.size) (by simp; omega)).trans (h.block i hi (by simp))⟩
theorem grow_but {w w1 w2 : World} (h : w.grownBy w1 none) (k : ButS w1 w2 (w.heap.size + 3) (w.heap.size + 1 + 1)) : w.grownBy w2 none :=
  ⟨k.os.trans h.os, k.tape.trans h.tape, k.output.trans h.output, Nat.le_trans h.size k.size, fun i hi _ => (k.block i (by omega) (by omega)).trans (h.block i hi (by simp))⟩

theorem tkept_is (N gi A : Nat) (f : Nat → Bool) (w : World) (h : BitsAt w gi 0 A f) :
    Calls Try.prog 59 #[.int .i64 N, .slice (some ⟨gi, 0, none⟩) A A] w fun e w' => ∃ Bk Bs, e = .returned (.func (.func 77) #[] #[.pointer (some ⟨Bk, 0, none⟩), .pointer (some ⟨Bs, 0, none⟩)]) ∧ KeptAt w' Bk Bs N gi 0 A A f ∧ w.grownBy w' none :=
  (tkept_any N (some ⟨gi, 0, none⟩) A A w).mono fun _ _ ⟨h1, h2⟩ => by
    subst h2
    obtain ⟨p1, p2⟩ := tkept_post (N := N) (cap := A) h
    exact ⟨_, _, h1, p1, p2⟩
theorem box_kept {wr X w5 : World} {v : Value} {t : TypeId} (g : X.grownBy w5 none) (hX : X.heap = (wr.alloc (.cells #[v] t)).heap) : w5.cell? ⟨wr.heap.size, 0, none⟩ = some v ∧ w5.frozen? ⟨wr.heap.size, 0, none⟩ = false := by
  have h := heap_alloc_new wr (.cells #[v] t)
  rw [← hX] at h
  have h5 := (g.block wr.heap.size (by rw [hX]; simp) (by simp)).trans h
  exact ⟨cell_of_row w5 _ 0 _ _ _ h5, frozen_of_row w5 _ 0 _ _ h5⟩
theorem lfree_new (w : World) (v : Value) (t : TypeId) : (w.alloc (.cells #[v] t)).frozen? ⟨w.heap.size, 0, none⟩ = false := by
  have h := heap_alloc_new w (.cells #[v] t)
  exact frozen_of_row _ _ 0 _ _ h
/-- The variable that holds such a function. -/
def EnbAt (N gi A : Nat) (f : Nat → Bool) (wr : World) (v : Value) (wc : World) : Prop :=
  ∃ E Bk Bs, v = .pointer (some ⟨E, 0, none⟩) ∧ wc.cell? ⟨E, 0, none⟩ = some (.func (.func 77) #[] #[.pointer (some ⟨Bk, 0, none⟩), .pointer (some ⟨Bs, 0, none⟩)]) ∧ KeptAt wc Bk Bs N gi 0 A A f ∧ wr.grownBy wc none

theorem enb_new {N gi A Bk Bs : Nat} {f : Nat → Bool} {wr X w5 : World} {t : TypeId} (g5 : X.grownBy w5 none) (hX : wr.grownBy X none) (hk : KeptAt w5 Bk Bs N gi 0 A A f) :
    EnbAt N gi A f wr (.pointer (some ⟨w5.heap.size, 0, none⟩)) (w5.alloc (.cells #[.func (.func 77) #[] #[.pointer (some ⟨Bk, 0, none⟩), .pointer (some ⟨Bs, 0, none⟩)]] t)) :=
  ⟨_, Bk, Bs, rfl, lcell_new _ _ _, hk.grown (World.grownBy_alloc _ _ none), grownBy_trans hX (grownBy_trans g5 (World.grownBy_alloc _ _ none))⟩
theorem enb_put {N gi A Bk Bs : Nat} {f : Nat → Bool} {wr X w5 : World} (g5 : X.grownBy w5 none) (hX : wr.grownBy X none) (nE : w5.cell? ⟨wr.heap.size, 0, none⟩ = some .nilFunc) (hA : 1 ≤ A) (hk : KeptAt w5 Bk Bs N gi 0 A A f) :
    EnbAt N gi A f wr (.pointer (some ⟨wr.heap.size, 0, none⟩)) (w5.setCell ⟨wr.heap.size, 0, none⟩ (.func (.func 77) #[] #[.pointer (some ⟨Bk, 0, none⟩), .pointer (some ⟨Bs, 0, none⟩)])) := by
  obtain ⟨h1, h2, h3, h4⟩ := hk
  have n1 : wr.heap.size ≠ Bk := fun e => by rw [← e, nE] at h1; cases h1
  have n2 : wr.heap.size ≠ Bs := fun e => by rw [← e, nE] at h2; cases h2
  have n3 : wr.heap.size ≠ gi := fun e => by
    have := h4 0 (by omega)
    rw [← e, Nat.add_zero, nE] at this
    cases this
  refine ⟨_, Bk, Bs, rfl, ?_, ⟨?_, ?_, ?_, fun c hc => ?_⟩, ?_⟩
  · rw [World.cell?_setCell_same _ _ _ nE]
  · rw [World.cell?_setCell_far _ _ _ _ n1]; exact h1
  · rw [World.cell?_setCell_far _ _ _ _ n2]; exact h2
  · simpa [World.setCell] using h3
  · rw [World.cell?_setCell_far _ _ _ _ n3]; exact h4 c hc
  · exact lgrow_at (grownBy_trans hX g5) (grownBy_set w5 wr.heap.size 0 _) (Nat.le_refl _)

set_option maxRecDepth 100000 in
set_option maxHeartbeats 4000000 in
theorem solved_any (N L Q : Nat) (hN : 1 ≤ N ∧ N ≤ 3) (hL : 1 ≤ L ∧ L ≤ 3) (hQ : Q ≤ 12) (w : World) :
    Calls Try.prog 58 #[.int .i64 N, .int .i64 L, .int .i64 Q] w (SolPost N L Q w) := by
  have eg2 : ∀ args w, (callFunc 75 args).run Try.prog w = .ok (.enter 75 args) w := fun _ _ => by kernel_rfl
  have eg3 : ∀ args w, (callFunc 76 args).run Try.prog w = .ok (.enter 76 args) w := fun _ _ => by kernel_rfl
  have EG2 := Lib.hid eg2
  have EG3 := Lib.hid eg3
  have HN := Lib.hid hN
  have HL := Lib.hid hL
  have HQ := Lib.hid hQ
  have q0 : (0 : Int) ≤ (Q : Int) := by omega
  have q12 : (Q : Int) ≤ 12 := by omega
  -- the three cells
  obtain ⟨w1, e1⟩ : ∃ w1, w1 = w.alloc (.cells #[.int .i64 N] 3) := ⟨_, rfl⟩
  obtain ⟨w2, e2⟩ : ∃ w2, w2 = w1.alloc (.cells #[.int .i64 L] 3) := ⟨_, rfl⟩
  obtain ⟨w3, e3⟩ : ∃ w3, w3 = w2.alloc (.cells #[.slice none 0 0] 56) := ⟨_, rfl⟩
  have s1 : w1.heap.size = w.heap.size + 1 := by rw [e1]; simp
  have s2 : w2.heap.size = w.heap.size + 1 + 1 := by rw [e2]; simp [s1]
  have s3 : w3.heap.size = w.heap.size + 3 := by rw [e3]; simp [s2]
  have g1 : w.grownBy w1 none := by rw [e1]; exact World.grownBy_alloc _ _ none
  have g2 : w1.grownBy w2 none := by rw [e2]; exact World.grownBy_alloc _ _ none
  have g3 : w2.grownBy w3 none := by rw [e3]; exact World.grownBy_alloc _ _ none
  have c1 : w1.cell? ⟨w.heap.size, 0, none⟩ = some (.int .i64 N) := by rw [e1]; exact lcell_new _ _ _
  have c2 : w2.cell? ⟨w.heap.size + 1, 0, none⟩ = some (.int .i64 L) := by rw [e2, ← s1]; exact lcell_new _ _ _
  have c3 : w3.cell? ⟨w.heap.size + 1 + 1, 0, none⟩ = some (.slice none 0 0) := by rw [e3, ← s2]; exact lcell_new _ _ _
  have f3 : w3.frozen? ⟨w.heap.size + 1 + 1, 0, none⟩ = false := by
    have h := heap_alloc_new w2 (.cells #[.slice none 0 0] 56)
    rw [← e3, s2] at h
    exact frozen_of_row w3 _ 0 _ _ h
  have t3 := g3.cell (g2.cell c1 (by simp)) (by simp)
  have p3 := g3.cell c2 (by simp)
  have G3 := Lib.hid (grownBy_trans g1 (grownBy_trans g2 g3))
  have cf := fill_any N L 0 hN hL (by omega) 75 #[.pointer (some ⟨w.heap.size, 0, none⟩)] w.heap.size (w.heap.size + 1) (w.heap.size + 1 + 1) (w.heap.size + 3) (.slice none 0 0) w3 eg2 t3 p3 c3 f3 (ListB.nilL _ _ _ _) (by omega) (by omega)
    (fun w4 g4 c hc a cap hI => s2_any N L c HN.out HL.out hc a cap w.heap.size w4 hI (g4.cell t3 (by simp)))
  have T3 := Lib.hid t3
  have P3 := Lib.hid p3
  have S3 := Lib.hid s3
  clear hN hL hQ s1 s2 s3 g1 g2 g3 c1 c2 c3 f3 t3 p3 eg2 eg3
  go_enter Try.func58, Try.ntmps58
  go_wp2_with fail
  rw [← e1, ← e2, ← e3]
  clear e1 e2 e3
  refine cf.mono ?_
  rintro e w4 ⟨rfl, v4, n4, f4, l4, b4⟩
  clear cf
  have G4 := Lib.hid (grow_but G3.out b4)
  have T4 := Lib.hid (b4.cell (by omega) (by omega) T3.out)
  have P4 := Lib.hid (b4.cell (by omega) (by omega) P3.out)
  have N4 := Lib.hid n4
  have F4 := Lib.hid f4
  have L4 := Lib.hid l4
  have S4 : Hid (w.heap.size + 3 ≤ w4.heap.size) := by have := b4.size; have := S3.out; unfold Hid; omega
  clear n4 f4 l4 b4
  go_wp2_with fail
  go_loopw [16] (fun i wr => SvRel N L Q w i wr) (fun i _ => Q - (intOf i).toNat)
  case atStart => exact ⟨0, by omega, rfl, ⟨v4, N4.out, F4.out, L4.out⟩, T4.out, P4.out, S4.out, G4.out⟩
  case round =>
    obtain ⟨r, hr, rfl, ⟨v, hn, hf, hl⟩, ht, hp, hsz, hgr⟩ := hrel
    by_cases hlt : r < Q
    · obtain ⟨g, cv, gi, rfl, hcell, hbits, hgi⟩ := hl.at (pw_le HN.out.2 HL.out.2).1 (i := r) (by omega)
      have rQ : (r : Int) < (Q : Int) := by omega
      have r0 : (0 : Int) ≤ (r : Int) := by omega
      have HLi := Lib.hid hl
      have HB := Lib.hid hbits
      have HGR := Lib.hid hgr
      have HT := Lib.hid ht
      have HP := Lib.hid hp
      have HF := Lib.hid hf
      have HC := Lib.hid hn
      have HA1 := Lib.hid (pw_le (N := N) (k := L) HN.out.2 HL.out.2).1
      clear hl hbits hgr hp hf
      have ct := fun wx (hx : BitsAt wx gi 0 (pw N L) (svB N L r)) => tkept_is N gi (pw N L) (svB N L r) wx hx
      go_wp2_with fail
      have gA := World.grownBy_alloc wr (.cells #[.nilFunc] 59) none
      have gB := World.grownBy_alloc wr.drew (.cells #[.nilFunc] 59) none
      have a1 := gA.cell ht (by simp)
      have a2 := gA.cell hn (by simp)
      have a3 := gA.cell hcell (by simp)
      have d1 := gB.cell (show wr.drew.cell? ⟨w.heap.size, 0, none⟩ = some (.int .i64 N) from ht) (by simp)
      have d2 := gB.cell (show wr.drew.cell? ⟨w.heap.size + 1 + 1, 0, none⟩ = some (.slice (some ⟨g, 0, none⟩) (r + 1) cv) from hn) (by simp)
      have d3 := gB.cell (show wr.drew.cell? ⟨g, r, none⟩ = some (.slice (some ⟨gi, 0, none⟩) (pw N L) (pw N L)) from hcell) (by simp)
      clear gA gB
      go_cut [10] (fun v wc => EnbAt N gi (pw N L) (svB N L r) wr v wc)
      case first =>
        go_region_with (go_at_call 59; refine (ct _ (by first | exact HB.out | exact HB.out.grown (grownBy_drew (grownBy_refl _ _)) | exact HB.out.grown (World.grownBy_alloc _ _ none) | exact HB.out.grown (grownBy_drew (World.grownBy_alloc _ _ none)))).mono ?_; rintro e w5 ⟨Bk, Bs, rfl, hk5, g5⟩; first | (obtain ⟨nE, fE⟩ := box_kept (wr := wr) (v := .nilFunc) (t := 59) g5 rfl) | (have nE := lcell_new w5 .nilFunc 59; have fE := lfree_new w5 .nilFunc 59))
        all_goals
          go_wp2_with fail
          go_meet
          first
          | exact enb_new g5 (grownBy_drew (grownBy_refl _ _)) hk5
          | exact enb_put g5 (grownBy_drew (World.grownBy_alloc _ _ none)) nE HA1.out hk5
          | exact enb_put g5 (World.grownBy_alloc _ _ none) nE HA1.out hk5
      case rest =>
        obtain ⟨E, Bk, Bs, rfl, nE, hkE, gc⟩ := hcut
        clear a1 a2 a3 d1 d2 d3 ht hn hcell ct
        have tc := gc.cell HT.out (by simp)
        have pc := gc.cell HP.out (by simp)
        have sc := gc.cell HC.out (by simp)
        have fc : wc.frozen? ⟨w.heap.size + 1 + 1, 0, none⟩ = false := (World.frozen?_of_block (w := wr) (a := ⟨w.heap.size + 1 + 1, 0, none⟩) (gc.block (w.heap.size + 1 + 1) (by omega) (by simp))).trans HF.out
        have szc := gc.size
        have c2 := fill_any N L (r + 1) HN.out HL.out (by have := HQ.out; omega) 76 #[.pointer (some ⟨E, 0, none⟩)] w.heap.size (w.heap.size + 1) (w.heap.size + 1 + 1) (w.heap.size + 3) _ wc EG3.out tc pc sc fc (HLi.out.kept gc) (by omega) (by omega)
          (fun w5 g5 c hc a cap hI => s3_any N L r c HN.out HL.out hc (by have := HQ.out; omega) a cap E Bk Bs gi 0 (pw N L) w5 hI (g5.cell nE (by simp)) (hkE.grown g5))
        have HTc := Lib.hid tc
        have HPc := Lib.hid pc
        have HGc := Lib.hid (grownBy_trans HGR.out gc)
        have HSz : Hid (w.heap.size + 3 ≤ wc.heap.size) := by unfold Hid; omega
        have HLT := Lib.hid hlt
        clear tc pc sc fc nE hkE gc szc hsz hlt hr
        go_wp2_with fail
        refine c2.mono ?_
        rintro e w6 ⟨rfl, v6, n6, f6, l6, b6⟩
        clear c2
        have T6 := Lib.hid (b6.cell (by omega) (by omega) HTc.out)
        have P6 := Lib.hid (b6.cell (by omega) (by omega) HPc.out)
        have G6 := Lib.hid (grow_but HGc.out b6)
        have N6 := Lib.hid n6
        have F6 := Lib.hid f6
        have L6 := Lib.hid l6
        have S6 : Hid (w.heap.size + 3 ≤ w6.heap.size) := by have := b6.size; have := HSz.out; unfold Hid; omega
        clear n6 f6 l6 b6
        go_wp2_with fail
        go_roundw
        case rel => exact ⟨r + 1, HLT.out, by go_num, ⟨v6, N6.out, F6.out, L6.out⟩, T6.out, P6.out, S6.out, G6.out⟩
        case measure => have := HLT.out; simp [intOf]; omega
    · obtain rfl : r = Q := by omega
      have HL5 := Lib.hid (hl.mono (show w.heap.size ≤ w.heap.size + 3 by omega))
      clear hl
      obtain ⟨av, cv, rfl⟩ := HL5.out.shape
      go_wp2_with fail
      go_ret
      exact ⟨_, rfl, HL5.out, hgr⟩

end Go.Proofs.Ythfikgaghinfbaa
