/-
  The exact law of AnswerTo.
-/
import Derived.Test.YthfikgaghinfbaaLCp
namespace Go.Proofs.Ythfikgaghinfbaa
open Go.RowKit

theorem ansW_len (n : Int) (xs : List Int) (s : Int) (y : Bool) : (ansW n xs s y).length ≤ 3 := by
  unfold ansW
  split
  · rename_i h
    rw [ans_len]
    exact (gameB_of h.1).2.1.2
  · simp

set_option maxHeartbeats 4000000 in
theorem FnExactAnswerTo_walk (a0 : Int) (a1 : Option Addr) (len1 cap1 : Nat) (z1 : List Int) (a2 : Int) (a3 : Bool) (w : World) (_w0 : (Lit.int .i64 a0).wf = true) (w1 : IsRow .i64 w a1 len1 cap1 z1) (_w2 : (Lit.int .i64 a2).wf = true) :
    Calls Try.prog 11 #[.int .i64 a0, .slice a1 len1 cap1, .int .i64 a2, .bool a3] w fun e w' => e = .returned (.bool true) ∧ Below w.heap.size w w' := by
  obtain ⟨xs, rfl, hX⟩ := w1.lints
  clear w1
  have HX := Lib.hid hX
  clear hX
  by_cases hl : (1048576 : Int) < (xs.length : Int)
  · go_enter Try.func11, Try.ntmps11
    go_wp2_with fail
    go_ret
    exact ⟨rfl, Below.refl _ _⟩
  · have hm : xs.length ≤ maxLen := by unfold maxLen; omega
    have HM := Lib.hid hm
    have hx20 : (xs.length : Int) ≤ 1048576 := by omega
    have HX20 := Lib.hid (show xs.length ≤ 100000000 by omega)
    clear hm hl
    have ct := fun w h => ltoI_any a1 cap1 xs HX20.out w h
    have cs := fun b c w h => sans_any a0 b c xs a2 a3 w h
    have ci := fun b c w h => iansw_any a0 b c xs a2 a3 w h
    have hz3 := ansW_len a0 xs a2 a3
    generalize ansW a0 xs a2 a3 = zs at *
    have ZM := Lib.hid (show zs.length ≤ maxLen by unfold maxLen; omega)
    have Z3 := Lib.hid hz3
    have hz3' : (zs.length : Int) ≤ 3 := by omega
    clear hz3
    go_enter Try.func11, Try.ntmps11
    go_wp2_with fail
    refine (ct _ HX.out).mono ?_
    rintro e w1 ⟨b1, c1, rfl, s1, g1⟩
    have cq := cs b1 c1 w1 (s1.at HM.out)
    clear s1 cs
    go_wp2_with fail
    refine cq.mono ?_
    rintro e w2 ⟨d, cd, rfl, od, g2⟩
    clear cq
    have G2 := Lib.hid (grownBy_trans g1 g2)
    have OD := Lib.hid od
    clear g1 g2 od
    -- the copy that is handed over
    go_wp2_with fail
    refine (ct _ (HX.out.grown G2.out)).mono ?_
    rintro e w3 ⟨b, cb, rfl, ob, g3⟩
    have OB := Lib.hid ob
    have OD3 := Lib.hid (OD.out.kept g3)
    have G3 := Lib.hid (grownBy_trans G2.out g3)
    have cq := ci b cb w3 (ob.at HM.out)
    have cix := ci
    clear ob g3 ci
    go_wp2_with fail
    refine cq.mono ?_
    rintro e w4 ⟨f, cf, rfl, of, g4⟩
    clear cq
    have OF := Lib.hid of
    have OB4 := Lib.hid (OB.out.kept g4)
    have OD4 := Lib.hid (OD3.out.kept g4)
    have G4 := Lib.hid (grownBy_trans G3.out g4)
    have ce := leqI_self f d cf cd zs w4 (of.at ZM.out) (OD4.out.at ZM.out)
    clear of g4
    go_wp2_with fail
    refine ce.mono ?_
    rintro e w5 ⟨rfl, g5⟩
    clear ce
    have OF5 := Lib.hid (OF.out.kept g5)
    have OB5 := Lib.hid (OB4.out.kept g5)
    have OD5 := Lib.hid (OD4.out.kept g5)
    have G5 := Lib.hid (grownBy_trans G4.out g5)
    clear g5
    go_wp2_with fail
    refine (ct _ (HX.out.grown G5.out)).mono ?_
    rintro e w6 ⟨b6, c6, rfl, s6, g6⟩
    have ce := leqI_self b b6 cb c6 xs w6 ((OB5.out.kept g6).at HM.out) (s6.at HM.out)
    have OF6 := Lib.hid (OF5.out.kept g6)
    have OB6 := Lib.hid (OB5.out.kept g6)
    have OD6 := Lib.hid (OD5.out.kept g6)
    have G6 := Lib.hid (grownBy_trans G5.out g6)
    clear s6 g6
    go_wp2_with fail
    refine ce.mono ?_
    rintro e w7 ⟨rfl, g7⟩
    clear ce
    have OF7 := Lib.hid (OF6.out.kept g7)
    have OB7 := Lib.hid (OB6.out.kept g7)
    have OD7 := Lib.hid (OD6.out.kept g7)
    have G7 := Lib.hid (grownBy_trans G6.out g7)
    clear g7
    -- the copy is marked
    have cm := lmarkI_any 1 (by omega) w2.heap.size b cb xs HX20.out w7 OB7.out
    go_wp2_with fail
    refine cm.mono ?_
    rintro e w8 ⟨rfl, _, g8⟩
    clear cm
    have OF8 := Lib.hid (OF7.out.past g8 (own_apart2 OB.out OF.out) (Nat.le_refl _))
    have OD8 := Lib.hid (OD7.out.past g8 (own_apart OD.out OB.out) (Nat.le_refl _))
    have G8 := Lib.hid (grownBy_row G7.out OB7.out G2.out.size g8)
    clear g8
    have ce := leqI_self f d cf cd zs w8 (OF8.out.at ZM.out) (OD8.out.at ZM.out)
    have k1 : ¬ ((1 : Int) + (xs.length : Int) < 0) := by omega
    go_wp2_with fail
    refine ce.mono ?_
    rintro e w9 ⟨rfl, g9⟩
    clear ce k1
    have OF9 := Lib.hid (OF8.out.kept g9)
    have OD9 := Lib.hid (OD8.out.kept g9)
    have G9 := Lib.hid (grownBy_trans G8.out g9)
    clear g9
    -- the answer is marked
    have cm := lmarkI_any 1 (by omega) w3.heap.size f cf zs (by have := Z3.out; omega) w9 OF9.out
    go_wp2_with fail
    refine cm.mono ?_
    rintro e w10 ⟨rfl, om, g10⟩
    clear cm
    have IM : Hid (IntsAt w10 f (marks 1 zs.length)) := (show OwnI w10 w3.heap.size f cf (marks 1 zs.length) by unfold OwnI; rw [marks_len]; exact om).at (by rw [marks_len]; exact ZM.out)
    have OD10 := Lib.hid (OD9.out.past g10 (fun z hz => own_apart (own_lower2 OD3.out (Nat.le_refl _)) OF.out z hz) (Nat.le_refl _))
    have G10 := Lib.hid (grownBy_row G9.out OF9.out G3.out.size g10)
    clear om g10
    have ch := heldIntS_any 1 (by omega) f zs.length cf (by have := Z3.out; omega) w10 IM.out
    go_wp2_with fail
    refine ch.mono ?_
    rintro e w' ⟨rfl, rfl⟩
    clear ch
    go_wp2_with fail
    refine (ct _ (HX.out.grown G10.out)).mono ?_
    rintro e w11 ⟨b11, c11, rfl, s11, g11⟩
    have cq := cix b11 c11 w11 (s11.at HM.out)
    clear s11 cix ct
    go_wp2_with fail
    refine cq.mono ?_
    rintro e w12 ⟨h, ch2, rfl, oh, g12⟩
    clear cq
    have g1012 := grownBy_trans g11 g12
    have ce := leqI_self h d ch2 cd zs w12 (oh.at ZM.out) ((OD10.out.kept g1012).at ZM.out)
    have IM12 := Lib.hid (IM.out.grown g1012)
    have G12 := Lib.hid (grownBy_trans G10.out g1012)
    clear oh g11 g12 g1012
    go_wp2_with fail
    refine ce.mono ?_
    rintro e w13 ⟨rfl, g13⟩
    clear ce
    have ch := heldIntS_any 1 (by omega) f zs.length cf (by have := Z3.out; omega) w13 (IM12.out.grown g13)
    go_wp2_with fail
    refine ch.mono ?_
    rintro e w' ⟨rfl, rfl⟩
    clear ch
    go_wp2_with fail
    go_ret
    exact ⟨rfl, below_of (grownBy_trans G12.out g13)⟩

end Go.Proofs.Ythfikgaghinfbaa
