/-
  The walks of the exact laws of chapter 7. No condition.
-/
import Derived.Test.YtffkhkgbhbgcgaaSPrem3
import Derived.Test.YtffkhkgbhbgcgaaSPow
namespace Go.Proofs.Ytffkhkgbhbgcgaa
open Go.RowKit

theorem IsStrs.texts {w : World} {a : Option Addr} {len cap : Nat} {zs : List ByteArray} (h : IsStrs w a len cap zs) : ∃ ss : List ByteArray, ss.length = len ∧ StrsAt w a ss ∧ ∀ s ∈ ss, s.size ≤ maxLen := by
  by_cases h0 : len = 0
  · subst h0
    exact ⟨[], rfl, StrsAt.nil _ _, by simp⟩
  · have hp : ∀ x, a = some x → x.spot = none := by
      rintro ⟨b, off, spot⟩ rfl
      rcases h with ⟨h, _⟩ | ⟨y, hy, h1, h2, h3, h4, _⟩
      · cases h
      · cases hy
        simpa [Addr.add] using World.cell?_spot (h4 0 (by omega))
    obtain ⟨h1, h2, h3⟩ := h.at hp
    exact ⟨_, h2, h1, h3⟩

/-- What the two calls over a copy leave. -/
theorem FnExactPremisesOk_walk (a0 : Option Addr) (len0 cap0 : Nat) (z0 : List ByteArray) (w : World) (w0 : IsStrs w a0 len0 cap0 z0) :
    Calls Try.prog 10 #[.slice a0 len0 cap0] w fun e w' => e = .returned (.bool true) ∧ Below w.heap.size w w' := by
  obtain ⟨ss, rfl, hS, hz⟩ := w0.texts
  have cz := sz_any 1048576 (by omega) a0 cap0 ss hz w hS
  clear w0 hz
  cases hb : szB ss 1048576
  · rw [szV_f hb] at cz
    clear hb hS
    go_enter Try.func10, Try.ntmps10
    go_wp2_with (go_at_call 40; refine cz.mono ?_; rintro e w1 ⟨rfl, rfl⟩)
    go_ret
    exact ⟨rfl, Below.refl _ _⟩
  · have hl := (szB_small hb).1
    have hp := szV_pos hb
    have ct := fun w h => toS_any a0 cap0 ss (by omega) w h
    have HS := Lib.hid hS
    clear hb hS
    generalize szV ss 1048576 = L at *
    go_enter Try.func10, Try.ntmps10
    go_wp2_with (go_at_call 40; refine cz.mono ?_; rintro e w1 ⟨rfl, rfl⟩)
    refine (ct _ HS.out).mono ?_
    rintro e w1 ⟨b1, c1, rfl, s1, g1⟩
    have cq := sprem_any b1 c1 ss w1 s1
    go_wp2_with fail
    refine cq.mono ?_
    rintro e w2 ⟨rfl, rfl⟩
    clear cq s1
    go_wp2_with fail
    refine (ct _ (HS.out.grown g1)).mono ?_
    rintro e w3 ⟨b3, c3, rfl, s3, g3⟩
    have ci := premok_any b3 c3 ss w3 s3
    go_wp2_with fail
    refine ci.mono ?_
    rintro e w4 ⟨rfl, g4⟩
    clear ci
    have g := grownBy_trans g1 (grownBy_trans g3 g4)
    have s4 := s3.grown g4
    generalize premB (ss.map bl) = v at *
    have hvv : (v != v) = false := by cases v <;> rfl
    go_wp2_with fail
    refine (ct _ (HS.out.grown g)).mono ?_
    rintro e w5 ⟨b5, c5, rfl, s5, g5⟩
    have ce := eqS_any b3 b5 c3 c5 ss w5 (s4.grown g5) s5
    go_wp2_with fail
    refine ce.mono ?_
    rintro e w6 ⟨rfl, g6⟩
    clear ce
    go_wp2_with fail
    go_ret
    exact ⟨rfl, below_of (grownBy_trans g (grownBy_trans g5 g6))⟩

theorem FnExactCountTrue_walk (a0 : Int) (a1 : Option Addr) (len1 cap1 : Nat) (z1 : List ByteArray) (w : World) (_w0 : (Lit.int .i64 a0).wf = true) (w1 : IsStrs w a1 len1 cap1 z1) :
    Calls Try.prog 12 #[.int .i64 a0, .slice a1 len1 cap1] w fun e w' => e = .returned (.bool true) ∧ Below w.heap.size w w' := by
  obtain ⟨ss, rfl, hS, hz⟩ := w1.texts
  have cz := sz_any 1048576 (by omega) a1 cap1 ss hz w hS
  clear w1 hz
  cases hb : szB ss 1048576
  · rw [szV_f hb] at cz
    clear hb hS
    go_enter Try.func12, Try.ntmps12
    go_wp2_with (go_at_call 40; refine cz.mono ?_; rintro e w1 ⟨rfl, rfl⟩)
    go_ret
    exact ⟨rfl, Below.refl _ _⟩
  · have hl := (szB_small hb).1
    have hp := szV_pos hb
    have ct := fun w h => toS_any a1 cap1 ss (by omega) w h
    have HS := Lib.hid hS
    clear hb hS
    generalize szV ss 1048576 = L at *
    go_enter Try.func12, Try.ntmps12
    go_wp2_with (go_at_call 40; refine cz.mono ?_; rintro e w1 ⟨rfl, rfl⟩)
    refine (ct _ HS.out).mono ?_
    rintro e w1 ⟨b1, c1, rfl, s1, g1⟩
    have cq := scount_any a0 b1 c1 ss w1 s1
    go_wp2_with fail
    refine cq.mono ?_
    rintro e w2 ⟨rfl, g2⟩
    clear cq s1
    go_wp2_with fail
    refine (ct _ (HS.out.grown (grownBy_trans g1 g2))).mono ?_
    rintro e w3 ⟨b3, c3, rfl, s3, g3⟩
    have ci := count_any a0 b3 c3 ss w3 s3
    go_wp2_with fail
    refine ci.mono ?_
    rintro e w4 ⟨rfl, g4⟩
    clear ci
    have g := grownBy_trans (grownBy_trans g1 g2) (grownBy_trans g3 g4)
    have s4 := s3.grown g4
    generalize cntI a0 (ss.map bl) = v at *
    go_wp2_with fail
    refine (ct _ (HS.out.grown g)).mono ?_
    rintro e w5 ⟨b5, c5, rfl, s5, g5⟩
    have ce := eqS_any b3 b5 c3 c5 ss w5 (s4.grown g5) s5
    go_wp2_with fail
    refine ce.mono ?_
    rintro e w6 ⟨rfl, g6⟩
    clear ce
    go_wp2_with fail
    go_ret
    exact ⟨rfl, below_of (grownBy_trans g (grownBy_trans g5 g6))⟩

theorem FnExactFollowsFrom_walk (a0 : Int) (a1 : Option Addr) (len1 cap1 : Nat) (z1 : List ByteArray) (a2 : ByteArray) (w : World) (_w0 : (Lit.int .i64 a0).wf = true) (w1 : IsStrs w a1 len1 cap1 z1) (_w2 : a2.size ≤ maxLen) :
    Calls Try.prog 11 #[.int .i64 a0, .slice a1 len1 cap1, .string a2] w fun e w' => e = .returned (.bool true) ∧ Below w.heap.size w w' := by
  by_cases hsz : (1048576 : Int) < (a2.size : Int)
  · clear w1
    go_enter Try.func11, Try.ntmps11
    go_wp2_with fail
    go_ret
    exact ⟨rfl, Below.refl _ _⟩
  obtain ⟨ss, rfl, hS, hz⟩ := w1.texts
  have cz := sz_any 1048576 (by omega) a1 cap1 ss hz w hS
  clear w1 hz
  cases hb : szB ss 1048576
  · rw [szV_f hb] at cz
    clear hb hS
    go_enter Try.func11, Try.ntmps11
    go_wp2_with (go_at_call 40; refine cz.mono ?_; rintro e w1 ⟨rfl, rfl⟩)
    go_ret
    exact ⟨rfl, Below.refl _ _⟩
  · have hl := (szB_small hb).1
    have hp := szV_pos hb
    have ct := fun w h => toS_any a1 cap1 ss (by omega) w h
    have HS := Lib.hid hS
    clear hb hS
    generalize szV ss 1048576 = L at *
    go_enter Try.func11, Try.ntmps11
    go_wp2_with (go_at_call 40; refine cz.mono ?_; rintro e w1 ⟨rfl, rfl⟩)
    refine (ct _ HS.out).mono ?_
    rintro e w1 ⟨b1, c1, rfl, s1, g1⟩
    have cq := sff_any a0 b1 c1 ss a2 w1 s1
    go_wp2_with fail
    refine cq.mono ?_
    rintro e w2 ⟨rfl, g2⟩
    clear cq s1
    go_wp2_with fail
    refine (ct _ (HS.out.grown (grownBy_trans g1 g2))).mono ?_
    rintro e w3 ⟨b3, c3, rfl, s3, g3⟩
    have ci := ff_any a0 b3 c3 ss a2 w3 s3
    go_wp2_with fail
    refine ci.mono ?_
    rintro e w4 ⟨rfl, g4⟩
    clear ci
    have g := grownBy_trans (grownBy_trans g1 g2) (grownBy_trans g3 g4)
    have s4 := s3.grown g4
    generalize folI a0 (ss.map bl) (bl a2) = v at *
    have hvv : (v != v) = false := by cases v <;> rfl
    go_wp2_with fail
    refine (ct _ (HS.out.grown g)).mono ?_
    rintro e w5 ⟨b5, c5, rfl, s5, g5⟩
    have ce := eqS_any b3 b5 c3 c5 ss w5 (s4.grown g5) s5
    go_wp2_with fail
    refine ce.mono ?_
    rintro e w6 ⟨rfl, g6⟩
    clear ce
    go_wp2_with fail
    go_ret
    exact ⟨rfl, below_of (grownBy_trans g (grownBy_trans g5 g6))⟩

theorem FnExactPowerText_walk (a0 : ByteArray) (a1 : Int) (_w0 : a0.size ≤ maxLen) (_w1 : (Lit.int .i64 a1).wf = true) (w : World) :
    Calls Try.prog 13 #[.string a0, .int .i64 a1] w fun e w' => e = .returned (.bool true) ∧ Below w.heap.size w w' := by
  have c1 := fun w => spow_any a0 a1 w
  have c2 := fun w => pow_any a0 a1 w
  generalize powI (bl a0) a1 = o at *
  by_cases hl : (1048576 : Int) < (a0.size : Int)
  · clear c1 c2
    go_enter Try.func13, Try.ntmps13
    go_wp2_with fail
    go_ret
    exact ⟨rfl, Below.refl _ _⟩
  · obtain ⟨X, b, hX⟩ : ∃ X b, txV o = .tuple #[.string X, .bool b] := by cases o <;> exact ⟨_, _, rfl⟩
    rw [hX] at c1 c2
    clear hX
    have hvv : (b != b) = false := by cases b <;> rfl
    have hXX : (X.toList != X.toList) = false := by simp
    go_enter Try.func13, Try.ntmps13
    go_wp2_with fail
    refine (c1 _).mono ?_
    rintro e w1 ⟨rfl, rfl⟩
    clear c1
    go_wp2_with fail
    refine (c2 _).mono ?_
    rintro e w2 ⟨rfl, g2⟩
    clear c2
    go_wp2_with fail
    go_ret
    exact ⟨rfl, below_of g2⟩

theorem FnExactDeducedOf_walk (a0 : Int) (a1 a2 : ByteArray) (_w0 : (Lit.int .i64 a0).wf = true) (_w1 : a1.size ≤ maxLen) (_w2 : a2.size ≤ maxLen) (w : World) :
    Calls Try.prog 14 #[.int .i64 a0, .string a1, .string a2] w fun e w' => e = .returned (.bool true) ∧ Below w.heap.size w w' := by
  by_cases hl : (1048576 : Int) < (a1.size : Int)
  · go_enter Try.func14, Try.ntmps14
    go_wp2_with fail
    go_ret
    exact ⟨rfl, Below.refl _ _⟩
  by_cases hm : (1048576 : Int) < (a2.size : Int)
  · go_enter Try.func14, Try.ntmps14
    go_wp2_with fail
    go_ret
    exact ⟨rfl, Below.refl _ _⟩
  · have c1 := fun w => sded_any a0 a1 a2 (by omega) w
    have c2 := fun w => ded_any a0 a1 a2 w
    generalize dedI a0 (bl a1) (bl a2) = o at *
    obtain ⟨X, b, hX⟩ : ∃ X b, txV o = .tuple #[.string X, .bool b] := by cases o <;> exact ⟨_, _, rfl⟩
    rw [hX] at c1 c2
    clear hX
    have hvv : (b != b) = false := by cases b <;> rfl
    have hXX : (X.toList != X.toList) = false := by simp
    go_enter Try.func14, Try.ntmps14
    go_wp2_with fail
    refine (c1 _).mono ?_
    rintro e w1 ⟨rfl, rfl⟩
    clear c1
    go_wp2_with fail
    refine (c2 _).mono ?_
    rintro e w2 ⟨rfl, g2⟩
    clear c2
    go_wp2_with fail
    go_ret
    exact ⟨rfl, below_of g2⟩

end Go.Proofs.Ytffkhkgbhbgcgaa
