/-
  The walks of the exact laws of chapter 6 that reach math/bits: its table lies as it is laid.
-/
import Derived.Test.YtahlmdlnemmhpaaDoorZSpecM
import Derived.Outline
namespace Go.Proofs.YtahlmdlnemmhpaaDoor
open Go.RowKit

theorem FnExactClosedOk_walk (a0 a1 : Int) (_w0 : (Lit.int .i64 a0).wf = true) (_w1 : (Lit.int .i64 a1).wf = true) (w : World) (hT : TzAt w) :
    Calls Tryd.prog 8 #[.int .i64 a0, .int .i64 a1] w fun e w' => e = .returned (.bool true) ∧ Below w.heap.size w w' := by
  go_enter Tryd.func8, Tryd.ntmps8
  go_wp2_with fail
  refine (sclosed_any _ _ _).mono ?_
  rintro e w1 ⟨rfl, rfl⟩
  go_wp2_with fail
  refine (closed_any _ _ _ hT).mono ?_
  rintro e w2 ⟨rfl, g2⟩
  go_wp2_with fail
  go_ret
  exact ⟨rfl, below_of g2⟩

theorem FnExactMadeBy_walk (a0 a1 : Int) (_w0 : (Lit.int .i64 a0).wf = true) (_w1 : (Lit.int .i64 a1).wf = true) (w : World) (hT : TzAt w) :
    Calls Tryd.prog 9 #[.int .i64 a0, .int .i64 a1] w fun e w' => e = .returned (.bool true) ∧ Below w.heap.size w w' := by
  go_enter Tryd.func9, Tryd.ntmps9
  go_wp2_with fail
  refine (smade_any _ _ _).mono ?_
  rintro e w1 ⟨rfl, rfl⟩
  go_wp2_with fail
  refine (made_any _ _ _ hT).mono ?_
  rintro e w2 ⟨rfl, g2⟩
  go_wp2_with fail
  go_ret
  exact ⟨rfl, below_of g2⟩

theorem FnExactStepsFor_walk (a0 a1 : Int) (_w0 : (Lit.int .i64 a0).wf = true) (_w1 : (Lit.int .i64 a1).wf = true) (w : World) (hT : TzAt w) :
    Calls Tryd.prog 11 #[.int .i64 a0, .int .i64 a1] w fun e w' => e = .returned (.bool true) ∧ Below w.heap.size w w' := by
  go_enter Tryd.func11, Tryd.ntmps11
  go_wp2_with fail
  refine (sstepsFor_any _ _ _).mono ?_
  rintro e w1 ⟨rfl, rfl⟩
  go_wp2_with fail
  refine (stepsFor_any _ _ _ hT).mono ?_
  rintro e w2 ⟨rfl, g2⟩
  go_wp2_with fail
  go_ret
  exact ⟨rfl, below_of g2⟩

theorem setsI_len (n : Int) : (setsI n).length ≤ 128 := by
  unfold setsI
  cases hi : inB n 1 6
  · simp
  · have hb := inB_of hi
    have h : [1, 2, 3, 4, 5, 6].all (fun n => decide ((setsL n).length ≤ 128)) = true := by decide +kernel
    rw [List.all_eq_true] at h
    have := of_decide_eq_true (h n.toNat (by simp; omega))
    simpa using this

set_option maxHeartbeats 1600000 in
theorem FnExactClosedSets_walk (a0 : Int) (_w0 : (Lit.int .i64 a0).wf = true) (w : World) (hT : TzAt w) :
    Calls Tryd.prog 10 #[.int .i64 a0] w fun e w' => e = .returned (.bool true) ∧ Below w.heap.size w w' := by
  have hlen : (setsI a0).length ≤ 1000 := by have := setsI_len a0; omega
  have hcg := closedSets_any a0
  have hcs := ssets_any a0
  generalize setsI a0 = zs at *
  have hlen2 : zs.length ≤ maxLen := by unfold maxLen; omega
  have hs := sameL_self zs
  have Hlen2 := Lib.hid hlen2
  have Hcg := Lib.hid hcg
  have Hcs := Lib.hid hcs
  clear hlen2 hcg hcs
  go_enter Tryd.func10, Tryd.ntmps10
  go_wp2_with fail
  refine (Hcs.out _).mono ?_
  rintro e w1 ⟨a, ca, rfl, ho1, hg1⟩
  have H1 := Lib.hid ho1
  clear ho1
  go_wp2_with fail
  refine (Hcg.out _ (hT.grown hg1)).mono ?_
  rintro e w2 ⟨b, cb, rfl, ho2, hg2⟩
  have H2 := Lib.hid ho2
  have H1' := Lib.hid (H1.out.kept hg2)
  clear ho2
  go_wp2_with fail
  refine (eqIntS_any _ _ _ _ zs zs _ (H2.out.at Hlen2.out) (H1'.out.at Hlen2.out)).mono ?_
  rintro e w3 ⟨rfl, hg3⟩
  go_wp2_with fail
  refine (markIntS_any 1 (by omega) w1.heap.size b cb zs (by omega) _ (H2.out.kept hg3)).mono ?_
  rintro e w4 ⟨rfl, ho4, hg4⟩
  have hm4 : IntsAt w4 b (marks 1 zs.length) := (show OwnI w4 w1.heap.size b cb (marks 1 zs.length) by unfold OwnI; rw [marks_len]; exact ho4).at (by rw [marks_len]; exact Hlen2.out)
  have Hm4 := Lib.hid hm4
  have H1'' : Hid (IntsAt w4 a zs) := by
    unfold Hid
    refine ((H1'.out.kept hg3).at Hlen2.out).kept hg4 ?_
    exact own_apart H1.out H2.out
  have hgA : w.grownBy w4 none := grownBy_row (grownBy_trans (grownBy_trans hg1 hg2) hg3) (H2.out.kept hg3) hg1.size hg4
  clear hm4 ho4
  go_wp2_with fail
  refine (heldIntS_any 1 (by omega) b zs.length cb (by omega) _ Hm4.out).mono ?_
  rintro e w5 ⟨rfl, rfl⟩
  go_wp2_with fail
  refine (Hcg.out _ (hT.grown hgA)).mono ?_
  rintro e w6 ⟨c, cc, rfl, ho6, hg6⟩
  have H6 := Lib.hid ho6
  clear ho6
  go_wp2_with fail
  refine (eqIntS_any _ _ _ _ zs zs _ (H6.out.at Hlen2.out) (H1''.out.grown hg6)).mono ?_
  rintro e w7 ⟨rfl, hg7⟩
  go_wp2_with fail
  refine (heldIntS_any 1 (by omega) b zs.length cb (by omega) _ ((Hm4.out.grown hg6).grown hg7)).mono ?_
  rintro e w8 ⟨rfl, rfl⟩
  go_wp2_with fail
  go_ret
  exact ⟨rfl, below_of (grownBy_trans (grownBy_trans hgA hg6) hg7)⟩


end Go.Proofs.YtahlmdlnemmhpaaDoor
