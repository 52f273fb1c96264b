/-
  The exact law of DeskNew: a desk without anything of before.
-/
import Derived.Test.YtnkebgkocpeonaaDX3
namespace Go.Proofs.Ytnkebgkocpeonaa
open Go.RowKit

theorem markLds_nil (k : Int) (w : World) :
    Calls Try.prog 74 #[.slice none 0 0, .int .i64 k] w fun e w' => e = .returned (.int .i64 k) ∧ w = w' := by
  go_enter Try.func74, Try.ntmps74
  go_wp2
  go_loopw [1, 5] (fun kv i wr => kv = .int .i64 k ∧ i = .int .i64 0 ∧ w = wr) (fun _ _ _ => 0)
  case atStart => exact ⟨rfl, rfl, rfl⟩
  case round =>
    obtain ⟨rfl, rfl, rfl⟩ := hrel
    go_wp2
    go_ret
    exact ⟨rfl, rfl⟩
theorem heldLds_nil (k : Int) (w : World) :
    Calls Try.prog 75 #[.slice none 0 0, .int .i64 k] w fun e w' => e = .returned (.int .i64 k) ∧ w = w' := by
  go_enter Try.func75, Try.ntmps75
  go_wp2
  go_loopw [1, 5] (fun kv i wr => kv = .int .i64 k ∧ i = .int .i64 0 ∧ w = wr) (fun _ _ _ => 0)
  case atStart => exact ⟨rfl, rfl, rfl⟩
  case round =>
    obtain ⟨rfl, rfl, rfl⟩ := hrel
    go_wp2
    go_ret
    exact ⟨rfl, rfl⟩
theorem markDk_nil (m : Int) (t : ByteArray) (k : Int) (w : World) :
    Calls Try.prog 37 #[.agg #[.int .i64 m, .string t, .slice none 0 0], .int .i64 k] w fun e w' => e = .returned (.int .i64 k) ∧ w.grownBy w' none := by
  go_enter Try.func37, Try.ntmps37
  go_wp2_with (first | (go_at_call 74; refine (markLds_nil _ _).mono ?_; rintro e w' ⟨rfl, rfl⟩))
  go_ret
  exact ⟨rfl, World.grownBy_alloc _ _ none⟩
theorem heldDk_nil (m : Int) (t : ByteArray) (k : Int) (hk : 0 ≤ k) (w : World) :
    Calls Try.prog 38 #[.agg #[.int .i64 m, .string t, .slice none 0 0], .int .i64 k] w fun e w' => e = .returned (.int .i64 k) ∧ w.grownBy w' none := by
  go_enter Try.func38, Try.ntmps38
  go_wp2_with (first | (go_at_call 75; refine (heldLds_nil _ _).mono ?_; rintro e w' ⟨rfl, rfl⟩))
  go_ret
  exact ⟨rfl, World.grownBy_alloc _ _ none⟩

set_option maxRecDepth 100000 in
set_option maxHeartbeats 4000000 in
theorem FnExactDeskNew_walk (a0 : Int) (_w0 : (Lit.int .i64 a0).wf = true) (w : World) :
    Calls Try.prog 10 #[.int .i64 a0] w fun e w' => e = .returned (.bool true) ∧ Below w.heap.size w w' := by
  obtain ⟨m, s, hk⟩ : ∃ m s, newK a0 = ((m, s), []) := by
    unfold newK
    split
    · exact ⟨_, _, rfl⟩
    · exact ⟨_, _, rfl⟩
  have c1 : ∀ w, Calls Try.prog 22 #[.int .i64 a0] w fun e w' => e = .returned (.tuple #[.agg #[.int .i64 m, .string (bs s), .slice none 0 0], .bool (inB a0 1 6)]) ∧ w.grownBy w' none := by
    intro w; have := snew_any a0 w; rw [hk] at this; exact this
  have c2 : ∀ w, Calls Try.prog 21 #[.int .i64 a0] w fun e w' => e = .returned (.tuple #[.agg #[.int .i64 m, .string (bs s), .slice none 0 0], .bool (inB a0 1 6)]) ∧ w.grownBy w' none := by
    intro w; have := inew_any a0 w; rw [hk] at this; exact this
  have ce : ∀ w, Calls Try.prog 36 #[.agg #[.int .i64 m, .string (bs s), .slice none 0 0], .agg #[.int .i64 m, .string (bs s), .slice none 0 0]] w fun e w' => e = .returned (.bool true) ∧ w.grownBy w' none := fun w => eqDesk_yes m (bs s) none none 0 0 [] w (LdsAt.nil _ _) (LdsAt.nil _ _)
  have hvv : (inB a0 1 6 != inB a0 1 6) = false := by simp
  clear hk
  generalize inB a0 1 6 = u at *
  generalize bs s = t at *
  go_enter Try.func10, Try.ntmps10
  go_wp2_with fail
  refine (c1 _).mono ?_
  rintro e w1 ⟨rfl, g1⟩
  have B1 := CellsAt.new w1 #[.int .i64 m, .string t, .slice none 0 0] 31
  have gA := World.grownBy_alloc w1 (.cells #[.int .i64 m, .string t, .slice none 0 0] 31) none
  go_wp2_with fail
  generalize w1.alloc (.cells #[.int .i64 m, .string t, .slice none 0 0] 31) = W1 at *
  generalize w1.heap.size = b1 at *
  refine (c2 _).mono ?_
  rintro e w2 ⟨rfl, g2⟩
  have C1 := B1.grown g2
  obtain ⟨x0, x1, x2⟩ := C1.three
  have hlt := C1.lt
  have B2 := CellsAt.new w2 #[.int .i64 m, .string t, .slice none 0 0] 31
  have gB := World.grownBy_alloc w2 (.cells #[.int .i64 m, .string t, .slice none 0 0] 31) none
  have HB1 := Lib.hid (C1.grown gB)
  have GA := Lib.hid (grownBy_trans g1 (grownBy_trans gA (grownBy_trans g2 gB)))
  clear g1 gA g2 gB C1 B1
  go_wp2_with fail
  generalize w2.alloc (.cells #[.int .i64 m, .string t, .slice none 0 0] 31) = W2 at *
  generalize w2.heap.size = b2 at *
  have HB2 := Lib.hid B2
  clear B2 x0 x1 x2
  refine (ce _).mono ?_
  rintro e w3 ⟨rfl, g3⟩
  obtain ⟨y0, y1, y2⟩ := (HB2.out.grown g3).three
  have G3 := Lib.hid g3
  clear g3
  go_wp2_with fail
  refine (markDk_nil _ _ _ _).mono ?_
  rintro e w4 ⟨rfl, g4⟩
  have G4 := Lib.hid (grownBy_trans G3.out g4)
  obtain ⟨y0, y1, y2⟩ := (HB2.out.grown G4.out).three
  clear g4
  go_wp2_with fail
  refine (heldDk_nil _ _ _ (by omega) _).mono ?_
  rintro e w5 ⟨rfl, g5⟩
  have G5 := Lib.hid (grownBy_trans G4.out g5)
  clear g5
  go_wp2_with fail
  refine (c2 _).mono ?_
  rintro e w6 ⟨rfl, g6⟩
  have G6 := Lib.hid (grownBy_trans G5.out g6)
  obtain ⟨y0, y1, y2⟩ := (HB2.out.grown G6.out).three
  obtain ⟨x0, x1, x2⟩ := (HB1.out.grown G6.out).three
  have hl1 := (HB1.out.grown G6.out).lt
  have hl2 := (HB2.out.grown G6.out).lt
  clear g6
  go_wp2_with fail
  have gC := World.grownBy_alloc w6 (.cells #[.int .i64 m, .string t, .slice none 0 0] 31) none
  generalize w6.alloc (.cells #[.int .i64 m, .string t, .slice none 0 0] 31) = W6 at *
  have G7 := Lib.hid (grownBy_trans G6.out gC)
  clear gC
  refine (ce _).mono ?_
  rintro e w7 ⟨rfl, g7⟩
  have G8 := Lib.hid (grownBy_trans G7.out g7)
  obtain ⟨y0, y1, y2⟩ := (HB2.out.grown G8.out).three
  clear g7
  go_wp2_with fail
  refine (heldDk_nil _ _ _ (by omega) _).mono ?_
  rintro e w8 ⟨rfl, g8⟩
  go_wp2_with fail
  go_ret
  exact ⟨rfl, below_of (grownBy_trans GA.out (grownBy_trans G8.out g8))⟩

end Go.Proofs.Ytnkebgkocpeonaa
