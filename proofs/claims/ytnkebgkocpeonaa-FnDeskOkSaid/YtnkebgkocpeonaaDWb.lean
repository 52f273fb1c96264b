/-
  The walk of FnDeskOk.
-/
import Derived.Test.YtnkebgkocpeonaaDDk
import Derived.Test.YtnkebgkocpeonaaDDraw
import Derived.Test.YtnkebgkocpeonaaDSame
namespace Go.Proofs.Ytnkebgkocpeonaa
open Go.RowKit

theorem deedC : DeedC := fun w r P hr hP => deed_draw w r P hr hP
def DkPost (w : World) (e : Ending) (w' : World) : Prop := ∃ (d : Dk) (a : Option Addr) (cap : Nat), e = .returned (dkV d a cap) ∧ LdsAt w' a d.2 ∧ (a = none → cap = 0) ∧ w.grownBy w' none

set_option maxRecDepth 8000 in
set_option maxHeartbeats 2000000 in
theorem DrawDeskOk_any (a : Option Addr) (len cap : Nat) (zs : List Int) (w : World) (h : IsRow .u8 w a len cap zs) :
    Calls Try.prog 17 #[.slice a len cap] w (DkPost w) := by
  have g0 := World.grownBy_alloc w (.cells #[.int .i64 0, .string ⟨#[]⟩, .slice none 0 0] 31) none
  have hB := CellsAt.new w #[.int .i64 0, .string ⟨#[]⟩, .slice none 0 0] 31
  have ha := h.up g0
  have hR : (w.alloc (.cells #[.int .i64 0, .string ⟨#[]⟩, .slice none 0 0] 31)).heap.size = w.heap.size + 1 := by show (w.heap.push _).size = _; rw [Array.size_push]
  have HR := Lib.hid hR
  have co := open_draw a len cap zs _ ha
  unfold OpenPost at co
  rw [hR] at co
  have HB := Lib.hid hB
  have G0 := Lib.hid g0
  clear h hB g0 hR ha
  go_enter Try.func17, Try.ntmps17
  go_wp2_with fail
  refine co.mono ?_
  rintro e w1 ⟨rfl, hr1, hg1⟩
  have cd := desk_draw deedC 2 w1 (w.heap.size + 1) 0 hr1 (by omega) (by omega) (by omega)
  have hl1 := hr1.lt
  clear co
  go_wp2_with fail
  refine cd.mono ?_
  rintro e w2 ⟨d, a2, c2, rfl, ho, hr2, hg2⟩
  obtain ⟨⟨m, s⟩, xs⟩ := d
  have hgg := grownBy_own hg1 (by rw [HR.out]; exact hg2)
  have HW := Lib.hid (HB.out.grown hgg)
  obtain ⟨⟨z0, z1, z2⟩, f0, f1, f2⟩ := three_facts HW.out
  have F := Lib.hid (HW.out.put3 (.int .i64 m) (.string (bs s)) (.slice a2 xs.length c2))
  have P := Lib.hid (show DkPost w (.returned (.agg #[.int .i64 m, .string (bs s), .slice a2 xs.length c2])) _ from ⟨((m, s), xs), a2, c2, rfl, (ho.past (put3_past w2 w.heap.size (.int .i64 m) (.string (bs s)) (.slice a2 xs.length c2)) (by omega)).at, ho.bare, put3_grown _ (grownBy_trans G0.out hgg) (Nat.le_refl _) _ _ _⟩)
  clear ho hr2 hg2 hg1 hr1 hgg cd
  unfold dkV
  go_wp2_with fail
  exact bodyPost_ret (v := .agg #[.int .i64 m, .string (bs s), .slice a2 xs.length c2]) (resDk rfl _ rfl F.out) rfl P.out

set_option maxRecDepth 100000 in
set_option maxHeartbeats 4000000 in
theorem FnDeskOk_walk (a0 : Option Addr) (len0 cap0 : Nat) (z0 : List Int) (w : World) (w0 : IsRow .u8 w a0 len0 cap0 z0) :
    Calls Try.prog 4 #[.slice a0 len0 cap0] w fun e w' => e = .returned (.bool true) ∧ Below w.heap.size w w' := by
  by_cases hl : (1048576 : Int) < (len0 : Int)
  · clear w0
    go_enter Try.func4, Try.ntmps4
    go_wp2_with fail
    go_ret
    exact ⟨rfl, Below.refl _ _⟩
  · go_enter Try.func4, Try.ntmps4
    go_wp2_with fail
    refine (DrawDeskOk_any _ _ _ _ _ w0).mono ?_
    rintro e w1 ⟨d, a, c, rfl, hd, h0, g1⟩
    clear w0 h0
    obtain ⟨⟨m, s⟩, xs⟩ := d
    have hA := CellsAt.new w1 #[.int .i64 m, .string (bs s), .slice a xs.length c] 31
    have gA := World.grownBy_alloc w1 (.cells #[.int .i64 m, .string (bs s), .slice a xs.length c] 31) none
    have hx := hd.grown gA
    have G1 := Lib.hid (grownBy_trans g1 gA)
    clear g1 hd gA
    unfold dkV
    go_wp2_with fail
    change LdsAt _ a xs at hx
    generalize w1.alloc (.cells #[.int .i64 m, .string (bs s), .slice a xs.length c] 31) = W1 at *
    generalize w1.heap.size = b at *
    have HA := Lib.hid hA
    have HX := Lib.hid hx
    clear hA hx
    have c1 : ∀ w, W1.grownBy w none → Calls Try.prog 18 #[.agg #[.int .i64 m, .string (bs s), .slice a xs.length c]] w fun e w' => e = .returned (.bool (dkB ((m, s), xs))) ∧ w.grownBy w' none := fun w hg => idesk_any ((m, s), xs) a c w (HX.out.grown hg)
    have c2 : ∀ w, W1.grownBy w none → Calls Try.prog 19 #[.agg #[.int .i64 m, .string (bs s), .slice a xs.length c]] w fun e w' => e = .returned (.bool (dkB ((m, s), xs))) ∧ w.grownBy w' none := fun w hg => sdesk_is ((m, s), xs) a c w (HX.out.grown hg)
    have c3 : ∀ w, Calls Try.prog 18 #[.agg #[.int .i64 m, .string (bs s), .slice none 0 0]] w fun e w' => e = .returned (.bool (dkB ((m, s), []))) ∧ w.grownBy w' none := fun w => idesk_any ((m, s), []) none 0 w (LdsAt.nil _ _)
    have c4 : ∀ w, Calls Try.prog 18 #[.agg #[.int .i64 0, .string ⟨#[]⟩, .slice none 0 0]] w fun e w' => e = .returned (.bool false) ∧ w.grownBy w' none := fun w => idesk_any ((0, []), []) none 0 w (LdsAt.nil _ _)
    have hb : dkB ((m, s), xs) = true → dkB ((m, s), []) = true := fun h => dkB_bare h
    have hvv : (dkB ((m, s), xs) != dkB ((m, s), xs)) = false := by simp
    refine (c1 _ (grownBy_refl _ _)).mono ?_
    rintro e w2 ⟨rfl, g2⟩
    obtain ⟨x0, x1, x2⟩ := (HA.out.grown g2).three
    have G2 := Lib.hid g2
    clear g2
    go_wp2_with fail
    refine (c2 _ G2.out).mono ?_
    rintro e w3 ⟨rfl, g3⟩
    have G3 := Lib.hid (grownBy_trans G2.out g3)
    obtain ⟨x0, x1, x2⟩ := (HA.out.grown G3.out).three
    clear g3 c1 c2
    cases hv : dkB ((m, s), xs)
    · rw [hv] at hvv
      clear hb
      go_wp2_with (first | (go_at_call 18; (with_reducible refine (c4 _).mono ?_); rintro e w5 ⟨rfl, g5⟩) | (go_at_call 16; refine (alive_any _).mono ?_; rintro e w' ⟨rfl, rfl⟩))
      go_ret
      exact ⟨rfl, below_of (grownBy_trans G1.out (grownBy_trans G3.out g5))⟩
    · rw [hv] at hvv
      rw [hb hv] at c3
      clear hb
      go_wp2_with (first | (go_at_call 18; (with_reducible refine (c3 _).mono ?_); rintro e w4 ⟨rfl, g4⟩; clear c3) | (go_at_call 18; (with_reducible refine (c4 _).mono ?_); rintro e w5 ⟨rfl, g5⟩) | (go_at_call 16; refine (alive_any _).mono ?_; rintro e w' ⟨rfl, rfl⟩))
      go_ret
      exact ⟨rfl, below_of (grownBy_trans G1.out (grownBy_trans G3.out (grownBy_trans g4 g5)))⟩

end Go.Proofs.Ytnkebgkocpeonaa
