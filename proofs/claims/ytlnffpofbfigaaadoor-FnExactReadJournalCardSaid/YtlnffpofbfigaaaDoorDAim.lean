/-
  DeskNew, both; impl's namesOk and what a deed leaves of chain and formula (after).
-/
import Derived.Test.YtlnffpofbfigaaaDoorDImp
import Derived.Test.YtlnffpofbfigaaaDoorDAft
import Derived.Test.YtlnffpofbfigaaaDoorDCl
import Derived.Test.YtlnffpofbfigaaaDoorFBas
namespace Go.Proofs.YtlnffpofbfigaaaDoor
open Go.RowKit

theorem isF_a : isF [97] = true := by decide
theorem ldB_a (n : Int) : ldB (n, [97]) = inB n 1 6 := by unfold ldB; rw [isF_a, Bool.and_true]
def newK (n : Int) : Dk := if inB n 1 6 = true then ((n, [97]), []) else ((0, []), [])

theorem bs_empty (t : List UInt8) : (bs t).toList.isEmpty = t.isEmpty := by rw [ByteArray.toList_eq]; rfl
set_option maxHeartbeats 1000000 in
theorem names_any (a : Dd) (w : World) :
    Calls Tryd.prog 27 #[ddV a] w fun e w' => e = .returned (.bool (namesB a)) ∧ w.grownBy w' none := by
  obtain ⟨k, n, t⟩ := a
  have ht := bs_empty t
  have hg := World.grownBy_alloc w (.cells #[.int .i64 k, .int .i64 n, .string (bs t)] 29) none
  have hn : decide (n = 0) = (n == 0) := rfl
  unfold ddV namesB
  by_cases k0 : k = 0
  · subst k0
    rw [if_pos rfl]
    go_enter Tryd.func27, Tryd.ntmps27
    go_wp2
    go_ret
    exact ⟨by first | rfl | (rw [← ht]; rfl) | (rw [ht]; rfl), hg⟩
  rw [if_neg k0]
  have b0 : (k == 0) = false := beq_false_of_ne k0
  by_cases k1 : k = 1
  · subst k1
    rw [if_pos (.inl rfl)]
    go_enter Tryd.func27, Tryd.ntmps27
    go_wp2
    go_ret
    exact ⟨rfl, hg⟩
  have b1 : (k == 1) = false := beq_false_of_ne k1
  by_cases k3 : k = 3
  · subst k3
    rw [if_pos (.inr (.inl rfl))]
    go_enter Tryd.func27, Tryd.ntmps27
    go_wp2
    go_ret
    exact ⟨rfl, hg⟩
  have b3 : (k == 3) = false := beq_false_of_ne k3
  by_cases k4 : k = 4
  · subst k4
    rw [if_pos (.inr (.inr rfl))]
    go_enter Tryd.func27, Tryd.ntmps27
    go_wp2
    go_ret
    exact ⟨rfl, hg⟩
  have b4 : (k == 4) = false := beq_false_of_ne k4
  rw [if_neg (by simp [k1, k3, k4])]
  by_cases hz : n = 0
  · subst hz
    go_enter Tryd.func27, Tryd.ntmps27
    go_wp2
    go_ret
    exact ⟨by simp [← ht], hg⟩
  · have bz : (n == 0) = false := beq_false_of_ne hz
    go_enter Tryd.func27, Tryd.ntmps27
    go_wp2
    go_ret
    exact ⟨by simp [hz], hg⟩
def AftPost (x : Ld) (a : Dd) (w : World) (e : Ending) (w' : World) : Prop := e = .returned (ldV (aft x a)) ∧ w.grownBy w' none
theorem bs_pair (x t : List UInt8) (c : UInt8) : (⟨#[40]⟩ : ByteArray) ++ bs x ++ ⟨#[c]⟩ ++ bs t ++ ⟨#[41]⟩ = bs (40 :: (x ++ c :: (t ++ [41]))) := by
  rw [show (⟨#[40]⟩ : ByteArray) = bs [40] from rfl, show (⟨#[c]⟩ : ByteArray) = bs [c] from rfl, show (⟨#[41]⟩ : ByteArray) = bs [41] from rfl, bs_app, bs_app, bs_app, bs_app]; simp

end Go.Proofs.YtlnffpofbfigaaaDoor
