/-
  The walks of the laws FnPremisesOk and FnCountTrue.
-/
import Derived.Test.YtdofeahbgodopaaPDraw2
import Derived.Test.YtdofeahbgodopaaSPrem3
namespace Go.Proofs.Ytdofeahbgodopaa
open Go.RowKit

theorem nil_prem : prOf (([] : List ByteArray).map bl) = some [] := rfl
theorem premok_is (a : Option Addr) (cap : Nat) (ss : List ByteArray) {v : Bool} (hv : premB (ss.map bl) = v) (w : World) (h : StrsAt w a ss) :
    Calls Try.prog 14 #[.slice a ss.length cap] w fun e w' => e = .returned (.bool v) ∧ w.grownBy w' none := by rw [← hv]; exact premok_any a cap ss w h
theorem sprem_is (a : Option Addr) (cap : Nat) (ss : List ByteArray) {v : Bool} (hv : premB (ss.map bl) = v) (w : World) (h : StrsAt w a ss) :
    Calls Try.prog 15 #[.slice a ss.length cap] w fun e w' => e = .returned (.bool v) ∧ w = w' := by rw [← hv]; exact sprem_any a cap ss w h
theorem cntr_is (n : Int) (a : Option Addr) (cap : Nat) (ss : List ByteArray) {v : Int} (hv : cntI n (ss.map bl) = v) (w : World) (h : StrsAt w a ss) :
    Calls Try.prog 23 #[.int .i64 n, .slice a ss.length cap] w fun e w' => e = .returned (.int .i64 v) ∧ w.grownBy w' none := by rw [← hv]; exact cntr_any n a cap ss w h
theorem scount_is (n : Int) (a : Option Addr) (cap : Nat) (ss : List ByteArray) {v : Int} (hv : cntI n (ss.map bl) = v) (w : World) (h : StrsAt w a ss) :
    Calls Try.prog 24 #[.int .i64 n, .slice a ss.length cap] w fun e w' => e = .returned (.int .i64 v) ∧ w.grownBy w' none := by rw [← hv]; exact scount_any n a cap ss w h
theorem ff_is (n : Int) (a : Option Addr) (cap : Nat) (ss : List ByteArray) (s : ByteArray) {v : Bool} (hv : folI n (ss.map bl) (bl s) = v) (w : World) (h : StrsAt w a ss) :
    Calls Try.prog 18 #[.int .i64 n, .slice a ss.length cap, .string s] w fun e w' => e = .returned (.bool v) ∧ w.grownBy w' none := by rw [← hv]; exact ff_any n a cap ss s w h
theorem sff_is (n : Int) (a : Option Addr) (cap : Nat) (ss : List ByteArray) (s : ByteArray) {v : Bool} (hv : folI n (ss.map bl) (bl s) = v) (w : World) (h : StrsAt w a ss) :
    Calls Try.prog 19 #[.int .i64 n, .slice a ss.length cap, .string s] w fun e w' => e = .returned (.bool v) ∧ w.grownBy w' none := by rw [← hv]; exact sff_any n a cap ss s w h
/-- A slice with a first text, and what lies behind it. -/
theorem StrsAt.cons {w : World} {a : Option Addr} {s : ByteArray} {ss : List ByteArray} (h : StrsAt w a (s :: ss)) : ∃ b off, a = some ⟨b, off, none⟩ := by
  rcases h.2 with h | ⟨b, off, ha, _⟩
  · cases h
  · exact ⟨b, off, ha⟩

set_option maxHeartbeats 1000000 in
theorem FnPremisesOk_walk (a0 : Option Addr) (len0 cap0 : Nat) (z0 : List Int) (w : World) (w0 : IsRow .u8 w a0 len0 cap0 z0) :
    Calls Try.prog 3 #[.slice a0 len0 cap0] w fun e w' => e = .returned (.bool true) ∧ Below w.heap.size w w' := by
  by_cases hl : (1048576 : Int) < (len0 : Int)
  · clear w0
    go_enter Try.func3, Try.ntmps3
    go_wp2_with fail
    go_ret
    exact ⟨rfl, Below.refl _ _⟩
  · go_enter Try.func3, Try.ntmps3
    go_wp2_with fail
    refine (DrawPremisesOk_any _ _ _ _ _ w0).mono ?_
    rintro e w1 ⟨ss, a, cap, rfl, h4, hcap, hsz, hS, g1⟩
    clear w0 hsz
    have HS := Lib.hid hS
    clear hS
    have cn := fun (w : World) (b : Nat) => premok_is (some ⟨b, 0, none⟩) 0 [] (v := true) rfl w (StrsAt.nil _ _)
    cases ss with
    | nil =>
      have c1 := premok_is a cap [] (v := true) rfl
      have c2 := sprem_is a cap [] (v := true) rfl
      go_wp2_with fail
      refine (c1 _ HS.out).mono ?_
      rintro e w2 ⟨rfl, g2⟩
      clear c1
      go_wp2_with fail
      refine (c2 _ (HS.out.grown g2)).mono ?_
      rintro e w3 ⟨rfl, rfl⟩
      clear c2
      go_wp2_with fail
      refine (cn _ _).mono ?_
      rintro e w4 ⟨rfl, g4⟩
      clear cn
      go_wp2_with (go_at_call 16; refine (alive_any _).mono ?_; rintro e w' ⟨rfl, rfl⟩)
      go_ret
      exact ⟨rfl, below_of (grownBy_trans g1 (grownBy_trans g2 (grownBy_trans (World.grownBy_alloc _ _ none) g4)))⟩
    | cons s ss =>
      obtain ⟨b, off, rfl⟩ := HS.out.cons
      cases hv : premB ((s :: ss).map bl)
      · have c1 := premok_is (some ⟨b, off, none⟩) cap (s :: ss) hv
        have c2 := sprem_is (some ⟨b, off, none⟩) cap (s :: ss) hv
        clear hv
        go_wp2_with fail
        refine (c1 _ HS.out).mono ?_
        rintro e w2 ⟨rfl, g2⟩
        clear c1
        go_wp2_with fail
        refine (c2 _ (HS.out.grown g2)).mono ?_
        rintro e w3 ⟨rfl, rfl⟩
        clear c2
        go_wp2_with fail
        refine (cn _ _).mono ?_
        rintro e w4 ⟨rfl, g4⟩
        clear cn
        go_wp2_with (go_at_call 16; refine (alive_any _).mono ?_; rintro e w' ⟨rfl, rfl⟩)
        go_ret
        exact ⟨rfl, below_of (grownBy_trans g1 (grownBy_trans g2 (grownBy_trans (World.grownBy_alloc _ _ none) g4)))⟩
      · have ht : premB (ss.map bl) = true := by
          obtain ⟨ts, hts⟩ := premB_of hv
          obtain ⟨t, us, _, h2, _⟩ := prOf_tail hts
          exact premB_t h2
        have c1 := premok_is (some ⟨b, off, none⟩) cap (s :: ss) hv
        have c2 := sprem_is (some ⟨b, off, none⟩) cap (s :: ss) hv
        have c3 := premok_is (some ⟨b, off + 1, none⟩) (cap - 1) ss ht
        clear hv ht
        simp only [List.length_cons] at h4 hcap c1 c2
        go_wp2_with fail
        refine (c1 _ HS.out).mono ?_
        rintro e w2 ⟨rfl, g2⟩
        clear c1
        go_wp2_with fail
        refine (c2 _ (HS.out.grown g2)).mono ?_
        rintro e w3 ⟨rfl, rfl⟩
        clear c2
        go_wp2_with fail
        refine (cn _ _).mono ?_
        rintro e w4 ⟨rfl, g4⟩
        clear cn
        have s4 := ((HS.out.grown g2).grown (grownBy_trans (World.grownBy_alloc w2 (.cells #[] 9) none) g4)).tail
        go_wp2_with fail
        · obtain rfl : ss = [] := List.length_eq_zero_iff.1 (by omega)
          refine (premok_is (some ⟨b, off, none⟩) 0 [] (v := true) rfl _ (StrsAt.nil _ _)).mono ?_
          rintro e w5 ⟨rfl, g5⟩
          clear c3
          go_wp2_with (go_at_call 16; refine (alive_any _).mono ?_; rintro e w' ⟨rfl, rfl⟩)
          go_ret
          exact ⟨rfl, below_of (grownBy_trans g1 (grownBy_trans g2 (grownBy_trans (grownBy_trans (World.grownBy_alloc _ _ none) g4) g5)))⟩
        · refine (c3 _ s4).mono ?_
          rintro e w5 ⟨rfl, g5⟩
          clear c3
          go_wp2_with (go_at_call 16; refine (alive_any _).mono ?_; rintro e w' ⟨rfl, rfl⟩)
          go_ret
          exact ⟨rfl, below_of (grownBy_trans g1 (grownBy_trans g2 (grownBy_trans (grownBy_trans (World.grownBy_alloc _ _ none) g4) g5)))⟩

end Go.Proofs.Ytdofeahbgodopaa
