/-
  The exact laws of chapter 9 but that of RowsMade, out of what the functions answer.
-/
import Derived.Test.YtoaknplfphoiaaaMC
import Derived.Test.YtoaknplfphoiaaaCpI
import Derived.Outline
namespace Go.Proofs.Ytoaknplfphoiaaa
open Go.RowKit

theorem saidL_len (n : Int) (l : List UInt8) : (saidL n l).length ≤ 1000 := by
  cases hi : inB n 1 6
  · rw [saidL_o hi]; simp
  · cases ho : fOf l with
    | none => rw [saidL_n ho]; simp
    | some t =>
      obtain ⟨N, rfl, hN⟩ := nat_of hi
      rw [saidL_t ho hi, saidTo_len]
      omega

set_option maxHeartbeats 1600000 in
theorem FnExactRowSaid_of (H : SaidC) (a0 : Int) (a1 : ByteArray) (_w0 : (Lit.int .i64 a0).wf = true) (_w1 : a1.size ≤ maxLen) (w : World) :
    Calls Try.prog 3 #[.int .i64 a0, .string a1] w fun e w' => e = .returned (.bool true) ∧ Below w.heap.size w w' := by
  by_cases hl : (1048576 : Int) < (a1.size : Int)
  · go_enter Try.func3, Try.ntmps3
    go_wp2_with fail
    go_ret
    exact ⟨rfl, Below.refl _ _⟩
  have hlen : (saidL a0 (bl a1)).length ≤ 1000 := saidL_len a0 (bl a1)
  have hcg := fun w => said_v H a0 a1 (xs := saidL a0 (bl a1)) rfl w
  have hcs := fun w => ssaid_v a0 a1 (xs := saidL a0 (bl a1)) rfl w
  generalize saidL a0 (bl a1) = zs at *
  have hlen2 : zs.length ≤ maxLen := by unfold maxLen; omega
  have hs := sameL_self zs
  have Hlen2 := Lib.hid hlen2
  have Hcg := Lib.hid hcg
  have Hcs := Lib.hid hcs
  clear hlen2 hcg hcs
  go_enter Try.func3, Try.ntmps3
  go_wp2_with fail
  refine (Hcs.out _).mono ?_
  rintro e w1 ⟨a, ca, rfl, ho1, hg1⟩
  have H1 := Lib.hid ho1
  clear ho1
  go_wp2_with fail
  refine (Hcg.out _).mono ?_
  rintro e w2 ⟨b, cb, rfl, ho2, hg2⟩
  have H2 := Lib.hid ho2
  have H1' := Lib.hid (H1.out.kept hg2)
  clear ho2
  go_wp2_with fail
  refine (eqIntS_any _ _ _ _ zs zs _ (H2.out.at Hlen2.out) (H1'.out.at Hlen2.out)).mono ?_
  rintro e w3 ⟨rfl, hg3⟩
  go_wp2_with fail
  refine (markIntS_any 1 (by omega) w1.heap.size b cb zs (by omega) _ (H2.out.kept hg3)).mono ?_
  rintro e w4 ⟨rfl, ho4, hg4⟩
  have hm4 : IntsAt w4 b (marks 1 zs.length) := (show OwnI w4 w1.heap.size b cb (marks 1 zs.length) by unfold OwnI; rw [marks_len]; exact ho4).at (by rw [marks_len]; exact Hlen2.out)
  have Hm4 := Lib.hid hm4
  have H1'' : Hid (IntsAt w4 a zs) := by
    unfold Hid
    refine ((H1'.out.kept hg3).at Hlen2.out).kept hg4 ?_
    exact own_apart H1.out H2.out
  have hgA : w.grownBy w4 none := grownBy_row (grownBy_trans (grownBy_trans hg1 hg2) hg3) (H2.out.kept hg3) hg1.size hg4
  clear hm4 ho4
  go_wp2_with fail
  refine (heldIntS_any 1 (by omega) b zs.length cb (by omega) _ Hm4.out).mono ?_
  rintro e w5 ⟨rfl, rfl⟩
  go_wp2_with fail
  refine (Hcg.out _).mono ?_
  rintro e w6 ⟨c, cc, rfl, ho6, hg6⟩
  have H6 := Lib.hid ho6
  clear ho6
  go_wp2_with fail
  refine (eqIntS_any _ _ _ _ zs zs _ (H6.out.at Hlen2.out) (H1''.out.grown hg6)).mono ?_
  rintro e w7 ⟨rfl, hg7⟩
  go_wp2_with fail
  refine (heldIntS_any 1 (by omega) b zs.length cb (by omega) _ ((Hm4.out.grown hg6).grown hg7)).mono ?_
  rintro e w8 ⟨rfl, rfl⟩
  go_wp2_with fail
  go_ret
  exact ⟨rfl, below_of (grownBy_trans (grownBy_trans hgA hg6) hg7)⟩

end Go.Proofs.Ytoaknplfphoiaaa
