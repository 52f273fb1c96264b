/-
  The walk of FnDeskDo.
-/
import Derived.Test.YtnkebgkocpeonaaDDd
import Derived.Test.YtnkebgkocpeonaaDIDo
import Derived.Test.YtnkebgkocpeonaaDSame
import Derived.Test.YtnkebgkocpeonaaDeskF
import Derived.Test.YtnkebgkocpeonaaASamN
namespace Go.Proofs.Ytnkebgkocpeonaa
open Go.RowKit

/-- What DeskDo answers, cell by cell. -/
def RunTo (m : Int) (s : List UInt8) (xs : List Ld) (ok : Bool) (w : World) (e : Ending) (w' : World) : Prop := ∃ (a : Option Addr) (cap : Nat), e = .returned (.tuple #[.agg #[.int .i64 m, .string (bs s), .slice a xs.length cap], .bool ok]) ∧ LdsAt w' a xs ∧ (a = none → cap = 0) ∧ w.grownBy w' none
theorem runTo_of {r : Dk × Bool} {m : Int} {s : List UInt8} {xs : List Ld} {ok : Bool} {w w' : World} {e : Ending} (hr : r = (((m, s), xs), ok)) (h : DoPost r w e w') : RunTo m s xs ok w e w' := by
  subst hr
  obtain ⟨a, cap, rfl, ho, h0, hg⟩ := h
  exact ⟨a, cap, rfl, ho.at, h0, hg⟩

theorem doR_not {d e : Dk} {D : Dd} (h : doR d D = (e, false)) : sameK e d = true ∨ dkB d = false := by
  cases hd : dkB d
  · exact .inr rfl
  · refine .inl ?_
    cases hq : doD d D with
    | none => rw [doR_none hd hq] at h; cases h; exact sameK_self _
    | some f => rw [doR_some hd hq] at h; cases h
theorem doR_yes {d e : Dk} {D : Dd} (h : doR d D = (e, true)) : dkB d = true ∧ doD d D = some e := by
  cases hd : dkB d
  · rw [doR_no hd] at h; cases h
  · cases hq : doD d D with
    | none => rw [doR_none hd hq] at h; cases h
    | some f => rw [doR_some hd hq] at h; cases h; exact ⟨rfl, rfl⟩

set_option maxRecDepth 100000 in
set_option maxHeartbeats 8000000 in
theorem FnDeskDo_walk (a0 : Option Addr) (len0 cap0 : Nat) (z0 : List Int) (w : World) (w0 : IsRow .u8 w a0 len0 cap0 z0) :
    Calls Try.prog 6 #[.slice a0 len0 cap0] w fun e w' => e = .returned (.bool true) ∧ Below w.heap.size w w' := by
  by_cases hl : (1048576 : Int) < (len0 : Int)
  · clear w0
    go_enter Try.func6, Try.ntmps6
    go_wp2_with fail
    go_ret
    exact ⟨rfl, Below.refl _ _⟩
  · go_enter Try.func6, Try.ntmps6
    go_wp2_with fail
    refine (DrawDeskDo_any _ _ _ _ _ w0).mono ?_
    rintro e w1 ⟨d, a, c, D, rfl, hd, h0, hDl, g1⟩
    clear w0
    obtain ⟨⟨m, s⟩, xs⟩ := d
    obtain ⟨K, N, t⟩ := D
    have hA := CellsAt.first w1 (.cells #[.int .i64 K, .int .i64 N, .string (bs t)] 39) #[.int .i64 m, .string (bs s), .slice a xs.length c] 31
    have hC := CellsAt.second w1 (.cells #[.int .i64 m, .string (bs s), .slice a xs.length c] 31) #[.int .i64 K, .int .i64 N, .string (bs t)] 39
    have gA : w1.grownBy ((w1.alloc (.cells #[.int .i64 m, .string (bs s), .slice a xs.length c] 31)).alloc (.cells #[.int .i64 K, .int .i64 N, .string (bs t)] 39)) none := grownBy_trans (World.grownBy_alloc w1 _ none) (World.grownBy_alloc _ _ none)
    have hx := hd.grown gA
    have G1 := Lib.hid (grownBy_trans g1 gA)
    clear g1 hd gA
    unfold dkV
    go_wp2_with fail
    change LdsAt _ a xs at hx
    generalize (w1.alloc (.cells #[.int .i64 m, .string (bs s), .slice a xs.length c] 31)).alloc (.cells #[.int .i64 K, .int .i64 N, .string (bs t)] 39) = W1 at *
    generalize w1.heap.size = b at *
    have HA := Lib.hid hA
    have HC := Lib.hid hC
    have HX := Lib.hid hx
    clear hA hC hx
    obtain ⟨R, hR⟩ : ∃ R, R = doR ((m, s), xs) (K, N, t) := ⟨_, rfl⟩
    obtain ⟨⟨⟨p, u⟩, ys⟩, ok⟩ := R
    have c1 : ∀ w, W1.grownBy w none → Calls Try.prog 26 #[.agg #[.int .i64 m, .string (bs s), .slice a xs.length c], .agg #[.int .i64 K, .int .i64 N, .string (bs t)]] w (RunTo p u ys ok w) := fun w hg => (ido_any ((m, s), xs) (K, N, t) a c w (HX.out.grown hg) h0 (by change t.length ≤ 4000000; change t.length ≤ 100 at hDl; omega)).mono fun _ _ q => runTo_of hR.symm q
    have c2 : ∀ w, W1.grownBy w none → Calls Try.prog 27 #[.agg #[.int .i64 m, .string (bs s), .slice a xs.length c], .agg #[.int .i64 K, .int .i64 N, .string (bs t)]] w (RunTo p u ys ok w) := fun w hg => (sdo_do ((m, s), xs) (K, N, t) a c w (HX.out.grown hg) h0).mono fun _ _ q => runTo_of hR.symm q
    refine (c1 _ (grownBy_refl _ _)).mono ?_
    rintro e w2 ⟨a1, k1, rfl, o1, z1, g2⟩
    have hX := CellsAt.new w2 #[.int .i64 p, .string (bs u), .slice a1 ys.length k1] 31
    have gX := World.grownBy_alloc w2 (.cells #[.int .i64 p, .string (bs u), .slice a1 ys.length k1] 31) none
    have o1' := o1.grown gX
    have G2 := Lib.hid (grownBy_trans g2 gX)
    obtain ⟨x0, x1, x2⟩ := (HA.out.grown G2.out).three
    obtain ⟨y0, y1, y2⟩ := (HC.out.grown G2.out).three
    clear g2 o1 gX c1
    go_wp2_with fail
    generalize w2.alloc (.cells #[.int .i64 p, .string (bs u), .slice a1 ys.length k1] 31) = W2 at *
    generalize w2.heap.size = bx at *
    have HB := Lib.hid hX
    have L1 := Lib.hid o1'
    clear hX o1'
    refine (c2 _ G2.out).mono ?_
    rintro e w3 ⟨a2, k2, rfl, o2, z2, g3⟩
    have hY := CellsAt.new w3 #[.int .i64 p, .string (bs u), .slice a2 ys.length k2] 31
    have gY := World.grownBy_alloc w3 (.cells #[.int .i64 p, .string (bs u), .slice a2 ys.length k2] 31) none
    have g23 := grownBy_trans g3 gY
    have HBB := Lib.hid (HB.out.grown g23)
    have L1' := Lib.hid (L1.out.grown g23)
    have L2 := Lib.hid (o2.grown gY)
    have G3 := Lib.hid (grownBy_trans G2.out g23)
    obtain ⟨x0, x1, x2⟩ := HBB.out.three
    obtain ⟨y0, y1, y2⟩ := hY.three
    clear g3 o2 gY c2 g23 z2
    go_wp2_with fail
    generalize w3.alloc (.cells #[.int .i64 p, .string (bs u), .slice a2 ys.length k2] 31) = W3 at *
    generalize w3.heap.size = bb at *
    have HY := Lib.hid hY
    clear hY
    have c3 : ∀ w, W3.grownBy w none → Calls Try.prog 23 #[.agg #[.int .i64 p, .string (bs u), .slice a1 ys.length k1], .agg #[.int .i64 p, .string (bs u), .slice a2 ys.length k2]] w fun e w' => e = .returned (.bool true) ∧ w.grownBy w' none := fun w hg => by
      have := dksame_any ((p, u), ys) ((p, u), ys) a1 a2 k1 k2 w (L1'.out.grown hg) (L2.out.grown hg)
      rw [sameK_self] at this
      exact this
    refine (c3 _ (grownBy_refl _ _)).mono ?_
    rintro e w4 ⟨rfl, g4⟩
    have hvv : (ok != ok) = false := by simp
    have G4 := Lib.hid g4
    obtain ⟨x0, x1, x2⟩ := (HBB.out.grown g4).three
    obtain ⟨y0, y1, y2⟩ := (HA.out.grown (grownBy_trans G3.out g4)).three
    have cO : ∀ w, W3.grownBy w none → Calls Try.prog 18 #[.agg #[.int .i64 m, .string (bs s), .slice a xs.length c]] w fun e w' => e = .returned (.bool (dkB ((m, s), xs))) ∧ w.grownBy w' none := fun w hg => idesk_any ((m, s), xs) a c w (HX.out.grown (grownBy_trans G3.out hg))
    clear c3 g4 HY
    cases ok
    · rw [show (Bool.false != Bool.false) = false from rfl] at hvv
      have hdis := doR_not hR.symm
      have c4 : ∀ w, W3.grownBy w none → Calls Try.prog 23 #[.agg #[.int .i64 p, .string (bs u), .slice a1 ys.length k1], .agg #[.int .i64 m, .string (bs s), .slice a xs.length c]] w fun e w' => e = .returned (.bool (sameK ((p, u), ys) ((m, s), xs))) ∧ w.grownBy w' none := fun w hg => dksame_any ((p, u), ys) ((m, s), xs) a1 a k1 c w (L1'.out.grown hg) (HX.out.grown (grownBy_trans G3.out hg))
      cases hq : sameK ((p, u), ys) ((m, s), xs)
      · have hf := hdis.resolve_left (by rw [hq]; simp)
        rw [hq] at c4
        rw [hf] at cO
        clear hdis hR
        go_wp2_with (first | (go_at_call 23; (with_reducible refine (c4 _ G4.out).mono ?_); rintro e w5 ⟨rfl, g5⟩; have G5 := Lib.hid (grownBy_trans G4.out g5); obtain ⟨y0, y1, y2⟩ := (HA.out.grown (grownBy_trans G3.out G5.out)).three; clear g5 c4) | (go_at_call 18; (with_reducible refine (cO _ G5.out).mono ?_); rintro e w6 ⟨rfl, g6⟩; have G6 := Lib.hid (grownBy_trans G5.out g6); clear g6) | (go_at_call 16; refine (alive_any _).mono ?_; rintro e w9 ⟨rfl, rfl⟩))
        go_ret
        exact ⟨rfl, below_of (grownBy_trans G1.out (grownBy_trans G3.out G6.out))⟩
      · rw [hq] at c4
        clear hdis hR cO
        go_wp2_with (first | (go_at_call 23; (with_reducible refine (c4 _ G4.out).mono ?_); rintro e w5 ⟨rfl, g5⟩; have G5 := Lib.hid (grownBy_trans G4.out g5); clear g5) | (go_at_call 16; refine (alive_any _).mono ?_; rintro e w9 ⟨rfl, rfl⟩))
        go_ret
        exact ⟨rfl, below_of (grownBy_trans G1.out (grownBy_trans G3.out G5.out))⟩
    · rw [show (Bool.true != Bool.true) = false from rfl] at hvv
      obtain ⟨hd, hdo⟩ := doR_yes hR.symm
      have hdx := do_ok hd hdo
      obtain ⟨R2, hR2⟩ : ∃ R, R = doR ((p, u), ys) (6, 0, []) := ⟨_, rfl⟩
      have hbk : K ≠ 6 → xs.length < 8 → R2 = (((m, s), xs), true) := fun hk hl => by rw [hR2]; exact doR_some hdx (do_back hk hl hdo)
      have hsm : K = 5 → sameI m u s = true := fun hk => basic_same hd hk hdo
      obtain ⟨⟨⟨q, v⟩, vs⟩, can⟩ := R2
      have c5 : ∀ w, W3.grownBy w none → Calls Try.prog 26 #[.agg #[.int .i64 p, .string (bs u), .slice a1 ys.length k1], .agg #[.int .i64 6, .int .i64 0, .string ⟨#[]⟩]] w (RunTo q v vs can w) := fun w hg => (ido_any ((p, u), ys) (6, 0, []) a1 k1 w (L1'.out.grown hg) z1 (by show (0 : Nat) ≤ _; omega)).mono fun _ _ q => runTo_of hR2.symm q
      clear hR hR2 cO hd
      go_wp2_with fail
      refine (c5 _ G4.out).mono ?_
      rintro e w5 ⟨a3, k3, rfl, o3, z3, g5⟩
      have hZ := CellsAt.new w5 #[.int .i64 q, .string (bs v), .slice a3 vs.length k3] 31
      have gZ := World.grownBy_alloc w5 (.cells #[.int .i64 q, .string (bs v), .slice a3 vs.length k3] 31) none
      have G5 := Lib.hid (grownBy_trans G4.out (grownBy_trans g5 gZ))
      have L3 := Lib.hid (o3.grown gZ)
      have L1s := Lib.hid (L1'.out.grown G5.out)
      have XX := Lib.hid (HBB.out.grown G5.out)
      have DD := Lib.hid (HA.out.grown (grownBy_trans G3.out G5.out))
      have EE := Lib.hid (HC.out.grown (grownBy_trans G3.out G5.out))
      have LX := Lib.hid (HX.out.grown (grownBy_trans G3.out G5.out))
      obtain ⟨x0, x1, x2⟩ := XX.out.three
      clear g5 o3 gZ c5 z3 z1 x0 x1 x2 y0 y1 y2
      obtain ⟨x0, x1, x2⟩ := XX.out.three
      go_wp2_with fail
      generalize w5.alloc (.cells #[.int .i64 q, .string (bs v), .slice a3 vs.length k3] 31) = W5 at *
      generalize w5.heap.size = b5 at *
      have ZB := Lib.hid hZ
      have c6 : ∀ w, W5.grownBy w none → Calls Try.prog 18 #[.agg #[.int .i64 p, .string (bs u), .slice a1 ys.length k1]] w fun e w' => e = .returned (.bool true) ∧ w.grownBy w' none := fun w hg => by
        have := idesk_any ((p, u), ys) a1 k1 w (L1s.out.grown hg)
        rw [hdx] at this
        exact this
      have c8 : ∀ w, K = 5 → Calls Try.prog 28 #[.int .i64 m, .string (bs u), .string (bs s)] w fun e w' => e = .returned (.bool true) ∧ w.grownBy w' none := fun w hk => by
        have := samat_any m (bs u) (bs s) w
        rw [bl_bs, bl_bs, hsm hk] at this
        exact this
      clear hZ hdo hdx hsm x0 x1 x2
      by_cases hK6 : K = 6
      · subst hK6
        clear c8 hbk
        go_wp2_with (first | (go_at_call 18; (with_reducible refine (c6 _ (grownBy_refl _ _)).mono ?_); rintro e w6 ⟨rfl, g6⟩; have G6 := Lib.hid g6; obtain ⟨x0, x1, x2⟩ := (XX.out.grown g6).three; obtain ⟨y0, y1, y2⟩ := (DD.out.grown g6).three; obtain ⟨t0, t1, t2⟩ := (EE.out.grown g6).three; obtain ⟨v0, v1, v2⟩ := (ZB.out.grown g6).three; clear g6 c6))
        go_ret
        exact ⟨rfl, below_of (grownBy_trans G1.out (grownBy_trans G3.out (grownBy_trans G5.out G6.out)))⟩
      by_cases h8 : (8 : Int) ≤ (xs.length : Int)
      · clear hbk
        by_cases hK5 : K = 5
        · have c8' := fun w => c8 w hK5
          subst hK5
          clear c8
          go_wp2_with (first | (go_at_call 18; (with_reducible refine (c6 _ (grownBy_refl _ _)).mono ?_); rintro e w6 ⟨rfl, g6⟩; have G6 := Lib.hid g6; obtain ⟨x0, x1, x2⟩ := (XX.out.grown g6).three; obtain ⟨y0, y1, y2⟩ := (DD.out.grown g6).three; obtain ⟨t0, t1, t2⟩ := (EE.out.grown g6).three; obtain ⟨v0, v1, v2⟩ := (ZB.out.grown g6).three; clear g6 c6) | (go_at_call 28; (with_reducible refine (c8' _).mono ?_); rintro e w8 ⟨rfl, g8⟩; first | (have G8 := Lib.hid (grownBy_trans G7.out g8)) | (have G8 := Lib.hid (grownBy_trans G6.out g8))))
          go_ret
          exact ⟨rfl, below_of (grownBy_trans G1.out (grownBy_trans G3.out (grownBy_trans G5.out G8.out)))⟩
        · clear c8
          go_wp2_with (first | (go_at_call 18; (with_reducible refine (c6 _ (grownBy_refl _ _)).mono ?_); rintro e w6 ⟨rfl, g6⟩; have G6 := Lib.hid g6; obtain ⟨x0, x1, x2⟩ := (XX.out.grown g6).three; obtain ⟨y0, y1, y2⟩ := (DD.out.grown g6).three; obtain ⟨t0, t1, t2⟩ := (EE.out.grown g6).three; obtain ⟨v0, v1, v2⟩ := (ZB.out.grown g6).three; clear g6 c6))
          go_ret
          exact ⟨rfl, below_of (grownBy_trans G1.out (grownBy_trans G3.out (grownBy_trans G5.out G6.out)))⟩
      · have hb := hbk hK6 (by omega)
        cases hb
        clear hbk
        have c7 : ∀ w, W5.grownBy w none → Calls Try.prog 23 #[.agg #[.int .i64 m, .string (bs s), .slice a3 xs.length k3], .agg #[.int .i64 m, .string (bs s), .slice a xs.length c]] w fun e w' => e = .returned (.bool true) ∧ w.grownBy w' none := fun w hg => by
          have := dksame_any ((m, s), xs) ((m, s), xs) a3 a k3 c w (L3.out.grown hg) (LX.out.grown hg)
          rw [sameK_self] at this
          exact this
        by_cases hK5 : K = 5
        · have c8' := fun w => c8 w hK5
          subst hK5
          clear c8
          go_wp2_with (first | (go_at_call 18; (with_reducible refine (c6 _ (grownBy_refl _ _)).mono ?_); rintro e w6 ⟨rfl, g6⟩; have G6 := Lib.hid g6; obtain ⟨x0, x1, x2⟩ := (XX.out.grown g6).three; obtain ⟨y0, y1, y2⟩ := (DD.out.grown g6).three; obtain ⟨t0, t1, t2⟩ := (EE.out.grown g6).three; obtain ⟨v0, v1, v2⟩ := (ZB.out.grown g6).three; clear g6 c6) | (go_at_call 23; (with_reducible refine (c7 _ G6.out).mono ?_); rintro e w7 ⟨rfl, g7⟩; have G7 := Lib.hid (grownBy_trans G6.out g7); obtain ⟨x0, x1, x2⟩ := (XX.out.grown G7.out).three; obtain ⟨y0, y1, y2⟩ := (DD.out.grown G7.out).three; obtain ⟨t0, t1, t2⟩ := (EE.out.grown G7.out).three; clear g7 c7) | (go_at_call 28; (with_reducible refine (c8' _).mono ?_); rintro e w8 ⟨rfl, g8⟩; first | (have G8 := Lib.hid (grownBy_trans G7.out g8)) | (have G8 := Lib.hid (grownBy_trans G6.out g8))))
          go_ret
          exact ⟨rfl, below_of (grownBy_trans G1.out (grownBy_trans G3.out (grownBy_trans G5.out G8.out)))⟩
        · clear c8
          go_wp2_with (first | (go_at_call 18; (with_reducible refine (c6 _ (grownBy_refl _ _)).mono ?_); rintro e w6 ⟨rfl, g6⟩; have G6 := Lib.hid g6; obtain ⟨x0, x1, x2⟩ := (XX.out.grown g6).three; obtain ⟨y0, y1, y2⟩ := (DD.out.grown g6).three; obtain ⟨t0, t1, t2⟩ := (EE.out.grown g6).three; obtain ⟨v0, v1, v2⟩ := (ZB.out.grown g6).three; clear g6 c6) | (go_at_call 23; (with_reducible refine (c7 _ G6.out).mono ?_); rintro e w7 ⟨rfl, g7⟩; have G7 := Lib.hid (grownBy_trans G6.out g7); obtain ⟨x0, x1, x2⟩ := (XX.out.grown G7.out).three; obtain ⟨y0, y1, y2⟩ := (DD.out.grown G7.out).three; obtain ⟨t0, t1, t2⟩ := (EE.out.grown G7.out).three; clear g7 c7))
          all_goals first | (exfalso; omega) | skip
          go_ret
          exact ⟨rfl, below_of (grownBy_trans G1.out (grownBy_trans G3.out (grownBy_trans G5.out G7.out)))⟩

end Go.Proofs.Ytnkebgkocpeonaa
