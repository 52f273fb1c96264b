/-
  The walks of FnLaidOk and FnDeskNew.
-/
import Derived.Test.YtnkebgkocpeonaaDSame
import Derived.Test.YtnkebgkocpeonaaDAim
import Derived.Test.YtnkebgkocpeonaaFDraw2
namespace Go.Proofs.Ytnkebgkocpeonaa
open Go.RowKit

theorem IsRow.up {k : IntKind} {w w' : World} {a : Option Addr} {len cap : Nat} {zs : List Int} (h : IsRow k w a len cap zs) (hg : w.grownBy w' none) : IsRow k w' a len cap zs := by
  rcases h with h | ⟨x, h1, h2, h3, h4, h5, h6⟩
  · exact .inl h
  · exact .inr ⟨x, h1, h2, h3, h4, fun i hi => hg.cell (h5 i hi) (by simp), h6⟩
def DLaidPost (w : World) (e : Ending) (w' : World) : Prop := ∃ x : Ld, e = .returned (.agg #[.int .i64 x.1, .string (bs x.2)]) ∧ w.grownBy w' none

set_option maxRecDepth 8000 in
set_option maxHeartbeats 1000000 in
theorem DrawLaidOk_any (a : Option Addr) (len cap : Nat) (zs : List Int) (w : World) (h : IsRow .u8 w a len cap zs) :
    Calls Try.prog 13 #[.slice a len cap] w (DLaidPost w) := by
  have g0 := World.grownBy_alloc w (.cells #[.int .i64 0, .string ⟨#[]⟩] 24) none
  have hB := CellsAt.new w #[.int .i64 0, .string ⟨#[]⟩] 24
  have ha := h.up g0
  have hR : (w.alloc (.cells #[.int .i64 0, .string ⟨#[]⟩] 24)).heap.size = w.heap.size + 1 := by show (w.heap.push _).size = _; rw [Array.size_push]
  have HR := Lib.hid hR
  have co := open_draw a len cap zs _ ha
  unfold OpenPost at co
  rw [hR] at co
  have HB := Lib.hid hB
  have G0 := Lib.hid g0
  clear h hB g0 hR ha
  go_enter Try.func13, Try.ntmps13
  go_wp2_with fail
  refine co.mono ?_
  rintro e w1 ⟨rfl, hr1, hg1⟩
  go_wp2_with fail
  refine (steps_draw _ _ _ _ hr1 (by omega) (by omega) (by omega)).mono ?_
  rintro e w2 ⟨n, rfl, n1, n2, hr2, hg2⟩
  go_wp2_with fail
  refine (formed_draw _ _ _ _ hr2 (by omega) (by omega) (by omega)).mono ?_
  rintro e w3 ⟨s, rfl, hs, hr3, hg3⟩
  have hgg := grownBy_own (grownBy_own hg1 (by rw [HR.out]; exact hg2)) (by rw [HR.out]; exact hg3)
  have HW := Lib.hid (HB.out.grown hgg)
  have z0 := HW.out.pair2.1
  have z1 := HW.out.pair2.2
  have f0 := HW.out.frozen 0
  have f1 := HW.out.frozen 1
  go_wp2_with fail
  have F := HW.out.put2 (.int .i64 n) (.string s)
  exact bodyPost_ret (v := .agg #[.int .i64 n, .string s]) (resLd1 rfl _ rfl F) rfl ⟨(n, bl s), rfl, grownBy_put (grownBy_put (grownBy_trans G0.out hgg) (Nat.le_refl _) 0 _) (Nat.le_refl _) 1 _⟩

theorem DrawDeskNew_any (a : Option Addr) (len cap : Nat) (zs : List Int) (w : World) (h : IsRow .u8 w a len cap zs) :
    Calls Try.prog 20 #[.slice a len cap] w fun e w' => ∃ n : Int, e = .returned (.int .i64 n) ∧ w.grownBy w' none := by
  go_enter Try.func20, Try.ntmps20
  go_wp2_with fail
  refine (open_draw a len cap zs _ h).mono ?_
  rintro e w1 ⟨rfl, hr1, hg1⟩
  clear h
  go_wp2_with fail
  refine (pick_any _ _ _ _ hr1 (by omega)).mono ?_
  rintro e w2 ⟨k, rfl, hk0, hk1, hr2, hg2⟩
  go_wp2_with fail
  go_ret
  exact ⟨_, rfl, grownBy_own hg1 hg2⟩

theorem laid_v (x : Ld) {v : Bool} (h : ldB x = v) (w : World) : Calls Try.prog 14 #[.agg #[.int .i64 x.1, .string (bs x.2)]] w fun e w' => e = .returned (.bool v) ∧ w.grownBy w' none := by rw [← h]; exact ilaid_any x w
theorem slaid_v (x : Ld) {v : Bool} (h : ldB x = v) (w : World) : Calls Try.prog 15 #[.agg #[.int .i64 x.1, .string (bs x.2)]] w fun e w' => e = .returned (.bool v) ∧ w.grownBy w' none := by rw [← h]; exact slaid_any x w

set_option maxRecDepth 100000 in
set_option maxHeartbeats 4000000 in
theorem FnLaidOk_walk (a0 : Option Addr) (len0 cap0 : Nat) (z0 : List Int) (w : World) (w0 : IsRow .u8 w a0 len0 cap0 z0) :
    Calls Try.prog 3 #[.slice a0 len0 cap0] w fun e w' => e = .returned (.bool true) ∧ Below w.heap.size w w' := by
  by_cases hl : (1048576 : Int) < (len0 : Int)
  · clear w0
    go_enter Try.func3, Try.ntmps3
    go_wp2_with fail
    go_ret
    exact ⟨rfl, Below.refl _ _⟩
  · go_enter Try.func3, Try.ntmps3
    go_wp2_with fail
    refine (DrawLaidOk_any _ _ _ _ _ w0).mono ?_
    rintro e w1 ⟨x, rfl, g1⟩
    clear w0
    obtain ⟨m, s⟩ := x
    have c1 := laid_v (m, s) (v := ldB (m, s)) rfl
    have c2 := slaid_v (m, s) (v := ldB (m, s)) rfl
    have c3 := laid_v (1, [97]) (v := true) (by rw [ldB_a]; rfl)
    have c4 := laid_v (0, []) (v := false) (by rfl)
    have hvv : (ldB (m, s) != ldB (m, s)) = false := by simp
    generalize ldB (m, s) = v at *
    change ∀ w : World, Calls Try.prog _ #[.agg #[.int .i64 1, .string ⟨#[97]⟩]] w _ at c3
    change ∀ w : World, Calls Try.prog _ #[.agg #[.int .i64 0, .string ⟨#[]⟩]] w _ at c4
    have X0 := Lib.hid (grownBy_trans g1 (World.grownBy_alloc w1 (.cells #[.int .i64 m, .string (bs s)] 24) none))
    have XB := Lib.hid (CellsAt.new w1 #[.int .i64 m, .string (bs s)] 24)
    go_wp2_with (first | ((with_reducible refine (c1 _).mono ?_); rintro e w2 ⟨rfl, g2⟩; obtain ⟨m0, m1⟩ := (XB.out.grown g2).pair2; clear c1) | ((with_reducible refine (c2 _).mono ?_); rintro e w3 ⟨rfl, g3⟩; clear c2) | ((with_reducible refine (c3 _).mono ?_); rintro e w4 ⟨rfl, g4⟩; clear c3) | ((with_reducible refine (c4 _).mono ?_); rintro e w5 ⟨rfl, g5⟩; clear c4) | (go_at_call 16; refine (alive_any _).mono ?_; rintro e w' ⟨rfl, rfl⟩))
    go_ret
    exact ⟨rfl, below_of (grownBy_trans (grownBy_trans (grownBy_trans (grownBy_trans X0.out g2) g3) g4) g5)⟩

set_option maxRecDepth 100000 in
set_option maxHeartbeats 4000000 in
theorem FnDeskNew_walk (a0 : Option Addr) (len0 cap0 : Nat) (z0 : List Int) (w : World) (w0 : IsRow .u8 w a0 len0 cap0 z0) :
    Calls Try.prog 5 #[.slice a0 len0 cap0] w fun e w' => e = .returned (.bool true) ∧ Below w.heap.size w w' := by
  by_cases hl : (1048576 : Int) < (len0 : Int)
  · clear w0
    go_enter Try.func5, Try.ntmps5
    go_wp2_with fail
    go_ret
    exact ⟨rfl, Below.refl _ _⟩
  · go_enter Try.func5, Try.ntmps5
    go_wp2_with fail
    refine (DrawDeskNew_any _ _ _ _ _ w0).mono ?_
    rintro e w1 ⟨n, rfl, g1⟩
    clear w0
    have c1 := inew_any n
    have c2 := snew_any n
    have cs := fun w => dksame_any (newK n) (newK n) none none 0 0 w
    rw [sameK_self] at cs
    cases hn : inB n 1 6
    · have e1 : newK n = ((0, []), []) := by unfold newK; rw [hn]; rfl
      have cn := fun w (h : LdsAt w none []) => dkno_any ((0, []), []) none 0 w h
      rw [show sameK ((0, []), []) nilDk = true from sameK_self _] at cn
      rw [hn, e1] at c1 c2
      rw [e1] at cs
      unfold dkV at c1 c2 cs cn
      change ∀ w : World, Calls Try.prog _ _ w fun e w' => e = .returned (.tuple #[.agg #[.int .i64 0, .string ⟨#[]⟩, .slice none 0 0], .bool false]) ∧ w.grownBy w' none at c1
      change ∀ w : World, Calls Try.prog _ _ w fun e w' => e = .returned (.tuple #[.agg #[.int .i64 0, .string ⟨#[]⟩, .slice none 0 0], .bool false]) ∧ w.grownBy w' none at c2
      change ∀ w : World, LdsAt w none [] → LdsAt w none [] → Calls Try.prog _ #[.agg #[.int .i64 0, .string ⟨#[]⟩, .slice none 0 0], .agg #[.int .i64 0, .string ⟨#[]⟩, .slice none 0 0]] w _ at cs
      change ∀ w : World, LdsAt w none [] → Calls Try.prog _ #[.agg #[.int .i64 0, .string ⟨#[]⟩, .slice none 0 0]] w _ at cn
      go_wp2_with (first | ((with_reducible refine (c1 _).mono ?_); rintro e w2 ⟨rfl, g2⟩; clear c1) | ((with_reducible refine (c2 _).mono ?_); rintro e w3 ⟨rfl, g3⟩; obtain ⟨o0, o1, o2⟩ := ((CellsAt.new w2 #[.int .i64 0, .string ⟨#[]⟩, .slice none 0 0] 31).grown g3).three; have ol := ((CellsAt.new w2 #[.int .i64 0, .string ⟨#[]⟩, .slice none 0 0] 31).grown g3).lt; have XO := Lib.hid ((CellsAt.new w2 #[.int .i64 0, .string ⟨#[]⟩, .slice none 0 0] 31).grown (grownBy_trans g3 (World.grownBy_alloc w3 (.cells #[.int .i64 0, .string ⟨#[]⟩, .slice none 0 0] 31) none))); clear c2) | ((with_reducible refine (cs _ (LdsAt.nil _ _) (LdsAt.nil _ _)).mono ?_); rintro e w4 ⟨rfl, g4⟩; obtain ⟨p0, p1, p2⟩ := (XO.out.grown g4).three; clear cs) | ((with_reducible refine (cn _ (LdsAt.nil _ _)).mono ?_); rintro e w5 ⟨rfl, g5⟩; clear cn) | (go_at_call 16; refine (alive_any _).mono ?_; rintro e w' ⟨rfl, rfl⟩))
      go_ret
      exact ⟨rfl, below_of (grownBy_trans (grownBy_trans (grownBy_trans g1 g2) (grownBy_trans (World.grownBy_alloc _ _ none) g3)) (grownBy_trans (grownBy_trans (World.grownBy_alloc _ _ none) g4) g5))⟩
    · have e1 : newK n = ((n, [97]), []) := by unfold newK; rw [hn]; rfl
      have cd := fun w (h : LdsAt w none []) => idesk_any ((n, [97]), []) none 0 w h
      have hk : dkB ((n, [97]), []) = true := dkB_mk (by simp) (by rw [ldB_a]; exact hn) (by simp)
      rw [hk] at cd
      rw [hn, e1] at c1 c2
      rw [e1] at cs
      unfold dkV at c1 c2 cs cd
      change ∀ w : World, Calls Try.prog _ _ w fun e w' => e = .returned (.tuple #[.agg #[.int .i64 n, .string ⟨#[97]⟩, .slice none 0 0], .bool true]) ∧ w.grownBy w' none at c1
      change ∀ w : World, Calls Try.prog _ _ w fun e w' => e = .returned (.tuple #[.agg #[.int .i64 n, .string ⟨#[97]⟩, .slice none 0 0], .bool true]) ∧ w.grownBy w' none at c2
      change ∀ w : World, LdsAt w none [] → LdsAt w none [] → Calls Try.prog _ #[.agg #[.int .i64 n, .string ⟨#[97]⟩, .slice none 0 0], .agg #[.int .i64 n, .string ⟨#[97]⟩, .slice none 0 0]] w _ at cs
      change ∀ w : World, LdsAt w none [] → Calls Try.prog _ #[.agg #[.int .i64 n, .string ⟨#[97]⟩, .slice none 0 0]] w _ at cd
      go_wp2_with (first | ((with_reducible refine (c1 _).mono ?_); rintro e w2 ⟨rfl, g2⟩; clear c1) | ((with_reducible refine (c2 _).mono ?_); rintro e w3 ⟨rfl, g3⟩; obtain ⟨o0, o1, o2⟩ := ((CellsAt.new w2 #[.int .i64 n, .string ⟨#[97]⟩, .slice none 0 0] 31).grown g3).three; have ol := ((CellsAt.new w2 #[.int .i64 n, .string ⟨#[97]⟩, .slice none 0 0] 31).grown g3).lt; have XO := Lib.hid ((CellsAt.new w2 #[.int .i64 n, .string ⟨#[97]⟩, .slice none 0 0] 31).grown (grownBy_trans g3 (World.grownBy_alloc w3 (.cells #[.int .i64 n, .string ⟨#[97]⟩, .slice none 0 0] 31) none))); clear c2) | ((with_reducible refine (cs _ (LdsAt.nil _ _) (LdsAt.nil _ _)).mono ?_); rintro e w4 ⟨rfl, g4⟩; obtain ⟨p0, p1, p2⟩ := (XO.out.grown g4).three; clear cs) | ((with_reducible refine (cd _ (LdsAt.nil _ _)).mono ?_); rintro e w5 ⟨rfl, g5⟩; obtain ⟨p0, p1, p2⟩ := ((XO.out.grown g4).grown g5).three; clear cd))
      go_ret
      exact ⟨rfl, below_of (grownBy_trans (grownBy_trans (grownBy_trans g1 g2) (grownBy_trans (World.grownBy_alloc _ _ none) g3)) (grownBy_trans (grownBy_trans (World.grownBy_alloc _ _ none) g4) g5))⟩

end Go.Proofs.Ytnkebgkocpeonaa
