/-
  The walk of the law FnAxiomAt.
-/
import Derived.Test.YtkkmoaenlnibiaaAIs
namespace Go.Proofs.Ytkkmoaenlnibiaa
open Go.RowKit

theorem six_len {l : List UInt8} (h : chI l = [1, 2, 3, 4, 5, 6]) (s : ByteArray) (e : bl s = l) (w : World) :
    Calls Try.prog 35 #[.string s] w fun e w' => (∃ a cap, e = .returned (.slice a 6 cap)) ∧ w.grownBy w' none := by
  have := chains_any s w
  rw [e, h] at this
  exact this.mono fun e w' ⟨a, cap, h1, _, h2⟩ => ⟨⟨a, cap, h1⟩, h2⟩

set_option maxRecDepth 100000 in
set_option maxHeartbeats 2000000 in
theorem FnAxiomAt_walk (a0 : Option Addr) (len0 cap0 : Nat) (z0 : List Int) (w : World) (w0 : IsRow .u8 w a0 len0 cap0 z0) :
    Calls Try.prog 7 #[.slice a0 len0 cap0] w fun e w' => e = .returned (.bool true) ∧ Below w.heap.size w w' := by
  by_cases hl : (1048576 : Int) < (len0 : Int)
  · clear w0
    go_enter Try.func7, Try.ntmps7
    go_wp2_with fail
    go_ret
    exact ⟨rfl, Below.refl _ _⟩
  · go_enter Try.func7, Try.ntmps7
    go_wp2_with fail
    refine (DrawAxiomAt_any _ _ _ _ _ w0).mono ?_
    rintro e w1 ⟨n, rfl, n1, n2, g1⟩
    clear w0
    have hn : n = 0 ∨ n = 1 ∨ n = 2 ∨ n = 3 ∨ n = -1 ∨ n = 4 := by omega
    clear n1 n2
    rcases hn with rfl | rfl | rfl | rfl | hn
    · have c1 : ∀ w : World, Calls Try.prog 32 #[.int .i64 0] w fun e w' => e = .returned (.string ⟨#[40, 97, 62, 40, 98, 62, 97, 41, 41]⟩) ∧ w = w' := axiom_any 0
      have c2 : ∀ w : World, Calls Try.prog 33 #[.int .i64 0] w fun e w' => e = .returned (.string ⟨#[40, 97, 62, 40, 98, 62, 97, 41, 41]⟩) ∧ w = w' := saxiom_any 0
      have c3 := frm_is ⟨#[40, 97, 62, 40, 98, 62, 97, 41, 41]⟩ (v := true) (by decide +kernel)
      have c4 := six_len axS_0 ⟨#[40, 97, 62, 40, 98, 62, 97, 41, 41]⟩ rfl
      go_wp2_with fail
      refine (c1 _).mono ?_
      rintro e w2 ⟨rfl, rfl⟩
      clear c1
      go_wp2_with fail
      refine (c2 _).mono ?_
      rintro e w3 ⟨rfl, rfl⟩
      clear c2
      go_wp2_with fail
      refine (c3 _).mono ?_
      rintro e w4 ⟨rfl, g4⟩
      clear c3
      go_wp2_with fail
      refine (c4 _).mono ?_
      rintro e w5 ⟨⟨a, cap, rfl⟩, g5⟩
      clear c4
      go_wp2_with fail
      go_ret
      exact ⟨rfl, below_of (grownBy_trans g1 (grownBy_trans g4 g5))⟩
    · have c1 : ∀ w : World, Calls Try.prog 32 #[.int .i64 1] w fun e w' => e = .returned (.string ⟨#[40, 40, 97, 62, 98, 41, 62, 40, 40, 98, 62, 99, 41, 62, 40, 97, 62, 99, 41, 41, 41]⟩) ∧ w = w' := axiom_any 1
      have c2 : ∀ w : World, Calls Try.prog 33 #[.int .i64 1] w fun e w' => e = .returned (.string ⟨#[40, 40, 97, 62, 98, 41, 62, 40, 40, 98, 62, 99, 41, 62, 40, 97, 62, 99, 41, 41, 41]⟩) ∧ w = w' := saxiom_any 1
      have c3 := frm_is ⟨#[40, 40, 97, 62, 98, 41, 62, 40, 40, 98, 62, 99, 41, 62, 40, 97, 62, 99, 41, 41, 41]⟩ (v := true) (by decide +kernel)
      have c4 := six_len axS_1 ⟨#[40, 40, 97, 62, 98, 41, 62, 40, 40, 98, 62, 99, 41, 62, 40, 97, 62, 99, 41, 41, 41]⟩ rfl
      go_wp2_with fail
      refine (c1 _).mono ?_
      rintro e w2 ⟨rfl, rfl⟩
      clear c1
      go_wp2_with fail
      refine (c2 _).mono ?_
      rintro e w3 ⟨rfl, rfl⟩
      clear c2
      go_wp2_with fail
      refine (c3 _).mono ?_
      rintro e w4 ⟨rfl, g4⟩
      clear c3
      go_wp2_with fail
      refine (c4 _).mono ?_
      rintro e w5 ⟨⟨a, cap, rfl⟩, g5⟩
      clear c4
      go_wp2_with fail
      go_ret
      exact ⟨rfl, below_of (grownBy_trans g1 (grownBy_trans g4 g5))⟩
    · have c1 : ∀ w : World, Calls Try.prog 32 #[.int .i64 2] w fun e w' => e = .returned (.string ⟨#[40, 40, 40, 97, 62, 98, 41, 62, 98, 41, 62, 40, 40, 98, 62, 97, 41, 62, 97, 41, 41]⟩) ∧ w = w' := axiom_any 2
      have c2 : ∀ w : World, Calls Try.prog 33 #[.int .i64 2] w fun e w' => e = .returned (.string ⟨#[40, 40, 40, 97, 62, 98, 41, 62, 98, 41, 62, 40, 40, 98, 62, 97, 41, 62, 97, 41, 41]⟩) ∧ w = w' := saxiom_any 2
      have c3 := frm_is ⟨#[40, 40, 40, 97, 62, 98, 41, 62, 98, 41, 62, 40, 40, 98, 62, 97, 41, 62, 97, 41, 41]⟩ (v := true) (by decide +kernel)
      have c4 := six_len axS_2 ⟨#[40, 40, 40, 97, 62, 98, 41, 62, 98, 41, 62, 40, 40, 98, 62, 97, 41, 62, 97, 41, 41]⟩ rfl
      go_wp2_with fail
      refine (c1 _).mono ?_
      rintro e w2 ⟨rfl, rfl⟩
      clear c1
      go_wp2_with fail
      refine (c2 _).mono ?_
      rintro e w3 ⟨rfl, rfl⟩
      clear c2
      go_wp2_with fail
      refine (c3 _).mono ?_
      rintro e w4 ⟨rfl, g4⟩
      clear c3
      go_wp2_with fail
      refine (c4 _).mono ?_
      rintro e w5 ⟨⟨a, cap, rfl⟩, g5⟩
      clear c4
      go_wp2_with fail
      go_ret
      exact ⟨rfl, below_of (grownBy_trans g1 (grownBy_trans g4 g5))⟩
    · have c1 : ∀ w : World, Calls Try.prog 32 #[.int .i64 3] w fun e w' => e = .returned (.string ⟨#[40, 40, 33, 97, 62, 33, 98, 41, 62, 40, 98, 62, 97, 41, 41]⟩) ∧ w = w' := axiom_any 3
      have c2 : ∀ w : World, Calls Try.prog 33 #[.int .i64 3] w fun e w' => e = .returned (.string ⟨#[40, 40, 33, 97, 62, 33, 98, 41, 62, 40, 98, 62, 97, 41, 41]⟩) ∧ w = w' := saxiom_any 3
      have c3 := frm_is ⟨#[40, 40, 33, 97, 62, 33, 98, 41, 62, 40, 98, 62, 97, 41, 41]⟩ (v := true) (by decide +kernel)
      have c4 := six_len axS_3 ⟨#[40, 40, 33, 97, 62, 33, 98, 41, 62, 40, 98, 62, 97, 41, 41]⟩ rfl
      go_wp2_with fail
      refine (c1 _).mono ?_
      rintro e w2 ⟨rfl, rfl⟩
      clear c1
      go_wp2_with fail
      refine (c2 _).mono ?_
      rintro e w3 ⟨rfl, rfl⟩
      clear c2
      go_wp2_with fail
      refine (c3 _).mono ?_
      rintro e w4 ⟨rfl, g4⟩
      clear c3
      go_wp2_with fail
      refine (c4 _).mono ?_
      rintro e w5 ⟨⟨a, cap, rfl⟩, g5⟩
      clear c4
      go_wp2_with fail
      go_ret
      exact ⟨rfl, below_of (grownBy_trans g1 (grownBy_trans g4 g5))⟩
    · have c1 : ∀ w : World, Calls Try.prog 32 #[.int .i64 n] w fun e w' => e = .returned (.string ⟨#[]⟩) ∧ w = w' := by rcases hn with rfl | rfl <;> exact axiom_any _
      have c2 : ∀ w : World, Calls Try.prog 33 #[.int .i64 n] w fun e w' => e = .returned (.string ⟨#[]⟩) ∧ w = w' := by rcases hn with rfl | rfl <;> exact saxiom_any _
      rcases hn with rfl | rfl
      all_goals
        go_wp2_with fail
        refine (c1 _).mono ?_
        rintro e w2 ⟨rfl, rfl⟩
        clear c1
        go_wp2_with fail
        refine (c2 _).mono ?_
        rintro e w3 ⟨rfl, rfl⟩
        clear c2
        go_wp2_with (go_at_call 18; refine (alive_any _).mono ?_; rintro e w' ⟨rfl, rfl⟩)
        go_ret
        exact ⟨rfl, below_of g1⟩

end Go.Proofs.Ytkkmoaenlnibiaa
