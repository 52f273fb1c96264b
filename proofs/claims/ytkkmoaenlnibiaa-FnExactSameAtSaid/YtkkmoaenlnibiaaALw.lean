/-
  The walks of the exact laws of chapter 5. No condition.
-/
import Derived.Test.YtkkmoaenlnibiaaASpec2
import Derived.Test.YtkkmoaenlnibiaaASamN
import Derived.Test.YtkkmoaenlnibiaaAChainS
import Derived.Outline
namespace Go.Proofs.Ytkkmoaenlnibiaa
open Go.RowKit

theorem FnExactLeastAt_walk (a0 : Int) (a1 : ByteArray) (_w0 : (Lit.int .i64 a0).wf = true) (_w1 : a1.size ≤ maxLen) (w : World) :
    Calls Try.prog 9 #[.int .i64 a0, .string a1] w fun e w' => e = .returned (.bool true) ∧ Below w.heap.size w w' := by
  by_cases hl1 : (1048576 : Int) < (a1.size : Int)
  · go_enter Try.func9, Try.ntmps9
    go_wp2_with fail
    go_ret
    exact ⟨rfl, Below.refl _ _⟩
  · skip
    go_enter Try.func9, Try.ntmps9
    go_wp2_with fail
    refine (sleast_any _ _ _).mono ?_
    rintro e w1 ⟨rfl, g1⟩
    go_wp2_with fail
    refine (least_any _ _ _).mono ?_
    rintro e w2 ⟨rfl, g2⟩
    go_wp2_with fail
    go_ret
    exact ⟨rfl, below_of (grownBy_trans g1 g2)⟩

theorem FnExactAlwaysOk_walk (a0 : Int) (a1 : ByteArray) (_w0 : (Lit.int .i64 a0).wf = true) (_w1 : a1.size ≤ maxLen) (w : World) :
    Calls Try.prog 10 #[.int .i64 a0, .string a1] w fun e w' => e = .returned (.bool true) ∧ Below w.heap.size w w' := by
  by_cases hl1 : (1048576 : Int) < (a1.size : Int)
  · go_enter Try.func10, Try.ntmps10
    go_wp2_with fail
    go_ret
    exact ⟨rfl, Below.refl _ _⟩
  · skip
    go_enter Try.func10, Try.ntmps10
    go_wp2_with fail
    refine (salways_any _ _ _).mono ?_
    rintro e w1 ⟨rfl, g1⟩
    go_wp2_with fail
    refine (always_any _ _ _).mono ?_
    rintro e w2 ⟨rfl, g2⟩
    go_wp2_with fail
    go_ret
    exact ⟨rfl, below_of (grownBy_trans g1 g2)⟩

theorem FnExactSameAt_walk (a0 : Int) (a1 : ByteArray) (a2 : ByteArray) (_w0 : (Lit.int .i64 a0).wf = true) (_w1 : a1.size ≤ maxLen) (_w2 : a2.size ≤ maxLen) (w : World) :
    Calls Try.prog 12 #[.int .i64 a0, .string a1, .string a2] w fun e w' => e = .returned (.bool true) ∧ Below w.heap.size w w' := by
  by_cases hl1 : (1048576 : Int) < (a1.size : Int)
  · go_enter Try.func12, Try.ntmps12
    go_wp2_with fail
    go_ret
    exact ⟨rfl, Below.refl _ _⟩
  · skip
    by_cases hl2 : (1048576 : Int) < (a2.size : Int)
    · go_enter Try.func12, Try.ntmps12
      go_wp2_with fail
      go_ret
      exact ⟨rfl, Below.refl _ _⟩
    · skip
      go_enter Try.func12, Try.ntmps12
      go_wp2_with fail
      refine (ssamat_any _ _ _ _).mono ?_
      rintro e w1 ⟨rfl, g1⟩
      go_wp2_with fail
      refine (samat_any _ _ _ _).mono ?_
      rintro e w2 ⟨rfl, g2⟩
      go_wp2_with fail
      go_ret
      exact ⟨rfl, below_of (grownBy_trans g1 g2)⟩

theorem agV_s' {n : Int} {k : Nat} {l : List UInt8} (h : agI n l = some k) : agV n l = .tuple #[.int .i64 (tA n.toNat k), .int .i64 (tB n.toNat k), .int .i64 (tC n.toNat k), .bool true] := by unfold agV; rw [h]

theorem FnExactAgainstOf_walk (a0 : Int) (a1 : ByteArray) (_w0 : (Lit.int .i64 a0).wf = true) (_w1 : a1.size ≤ maxLen) (w : World) :
    Calls Try.prog 11 #[.int .i64 a0, .string a1] w fun e w' => e = .returned (.bool true) ∧ Below w.heap.size w w' := by
  by_cases hl1 : (1048576 : Int) < (a1.size : Int)
  · go_enter Try.func11, Try.ntmps11
    go_wp2_with fail
    go_ret
    exact ⟨rfl, Below.refl _ _⟩
  · have c1 := sagof_any a0 a1
    have c2 := agof_any a0 a1
    cases h : agI a0 (bl a1) with
    | none =>
      rw [agV_n h] at c1 c2
      clear h
      go_enter Try.func11, Try.ntmps11
      go_wp2_with fail
      refine (c1 _).mono ?_
      rintro e w1 ⟨rfl, g1⟩
      clear c1
      go_wp2_with fail
      refine (c2 _).mono ?_
      rintro e w2 ⟨rfl, g2⟩
      clear c2
      go_wp2_with fail
      go_ret
      exact ⟨rfl, below_of (grownBy_trans g1 g2)⟩
    | some k =>
      rw [agV_s' h] at c1 c2
      clear h
      go_enter Try.func11, Try.ntmps11
      go_wp2_with fail
      refine (c1 _).mono ?_
      rintro e w1 ⟨rfl, g1⟩
      clear c1
      go_wp2_with fail
      refine (c2 _).mono ?_
      rintro e w2 ⟨rfl, g2⟩
      clear c2
      go_wp2_with fail
      go_ret
      exact ⟨rfl, below_of (grownBy_trans g1 g2)⟩

theorem FnExactAxiomAt_walk (a0 : Int) (_w0 : (Lit.int .i64 a0).wf = true) (w : World) :
    Calls Try.prog 13 #[.int .i64 a0] w fun e w' => e = .returned (.bool true) ∧ Below w.heap.size w w' := by
  go_enter Try.func13, Try.ntmps13
  go_wp2_with fail
  refine (saxiom_any _ _).mono ?_
  rintro e w1 ⟨rfl, rfl⟩
  go_wp2_with fail
  refine (axiom_any _ _).mono ?_
  rintro e w2 ⟨rfl, rfl⟩
  go_wp2_with fail
  go_ret
  exact ⟨rfl, Below.refl _ _⟩

def chZ (s : ByteArray) : List Int := chI (bl s)
theorem chZ_len (s : ByteArray) : (chZ s).length ≤ 1000 := by
  have := chTo_len (bl s) 6
  rw [chTo_6] at this
  unfold chZ
  omega

set_option maxHeartbeats 1600000 in
theorem FnExactChainsFor_walk (a0 : ByteArray) (_w0 : a0.size ≤ maxLen) (w : World) :
    Calls Try.prog 14 #[.string a0] w fun e w' => e = .returned (.bool true) ∧ Below w.heap.size w w' := by
  by_cases hl : (1048576 : Int) < (a0.size : Int)
  · go_enter Try.func14, Try.ntmps14
    go_wp2_with fail
    go_ret
    exact ⟨rfl, Below.refl _ _⟩
  · skip
    have hlen : (chZ a0).length ≤ 1000 := chZ_len a0
    have hcg : ∀ w, Calls Try.prog 35 #[.string a0] w (IntsPost (chZ a0) w) := chains_any a0
    have hcs : ∀ w, Calls Try.prog 38 #[.string a0] w (IntsPost (chZ a0) w) := schains_any a0
    generalize chZ a0 = zs at *
    have hlen2 : zs.length ≤ maxLen := by unfold maxLen; omega
    have hs := sameL_self zs
    have Hlen2 := Lib.hid hlen2
    have Hcg := Lib.hid hcg
    have Hcs := Lib.hid hcs
    clear hlen2 hcg hcs
    go_enter Try.func14, Try.ntmps14
    go_wp2_with fail
    refine (Hcs.out _).mono ?_
    rintro e w1 ⟨a, ca, rfl, ho1, hg1⟩
    have H1 := Lib.hid ho1
    clear ho1
    go_wp2_with fail
    refine (Hcg.out _).mono ?_
    rintro e w2 ⟨b, cb, rfl, ho2, hg2⟩
    have H2 := Lib.hid ho2
    have H1' := Lib.hid (H1.out.kept hg2)
    clear ho2
    go_wp2_with fail
    refine (eqIntS_any _ _ _ _ zs zs _ (H2.out.at Hlen2.out) (H1'.out.at Hlen2.out)).mono ?_
    rintro e w3 ⟨rfl, hg3⟩
    go_wp2_with fail
    refine (markIntS_any 1 (by omega) w1.heap.size b cb zs (by omega) _ (H2.out.kept hg3)).mono ?_
    rintro e w4 ⟨rfl, ho4, hg4⟩
    have hm4 : IntsAt w4 b (marks 1 zs.length) := (show OwnI w4 w1.heap.size b cb (marks 1 zs.length) by unfold OwnI; rw [marks_len]; exact ho4).at (by rw [marks_len]; exact Hlen2.out)
    have Hm4 := Lib.hid hm4
    have H1'' : Hid (IntsAt w4 a zs) := by
      unfold Hid
      refine ((H1'.out.kept hg3).at Hlen2.out).kept hg4 ?_
      exact own_apart H1.out H2.out
    have hgA : w.grownBy w4 none := grownBy_row (grownBy_trans (grownBy_trans hg1 hg2) hg3) (H2.out.kept hg3) hg1.size hg4
    clear hm4 ho4
    go_wp2_with fail
    refine (heldIntS_any 1 (by omega) b zs.length cb (by omega) _ Hm4.out).mono ?_
    rintro e w5 ⟨rfl, rfl⟩
    go_wp2_with fail
    refine (Hcg.out _).mono ?_
    rintro e w6 ⟨c, cc, rfl, ho6, hg6⟩
    have H6 := Lib.hid ho6
    clear ho6
    go_wp2_with fail
    refine (eqIntS_any _ _ _ _ zs zs _ (H6.out.at Hlen2.out) (H1''.out.grown hg6)).mono ?_
    rintro e w7 ⟨rfl, hg7⟩
    go_wp2_with fail
    refine (heldIntS_any 1 (by omega) b zs.length cb (by omega) _ ((Hm4.out.grown hg6).grown hg7)).mono ?_
    rintro e w8 ⟨rfl, rfl⟩
    go_wp2_with fail
    go_ret
    exact ⟨rfl, below_of (grownBy_trans (grownBy_trans hgA hg6) hg7)⟩

end Go.Proofs.Ytkkmoaenlnibiaa
