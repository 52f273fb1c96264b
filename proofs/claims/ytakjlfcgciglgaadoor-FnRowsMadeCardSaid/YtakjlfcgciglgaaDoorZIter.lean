/-
  impl.valuesIn and the function that it hands back (it yields all values of a set, ascending: for every loop body that keeps what lay below a bound), and impl.followingIn: two loops over it, one within the other.
-/
import Derived.RangeFuncNested
import Derived.RangeFuncBound
import Derived.RangeFuncCalls
import Derived.RangeFuncLeaves
import Derived.Shelf.Abstract
import Derived.Shelf.RegionOpen
import Derived.WalkKit
import Derived.OwnWalkIn
import Derived.TacticsInMore
import Derived.LoopNIn
import Derived.LoopIn
import Derived.WalkMore
import Derived.Test.YtakjlfcgciglgaaDoorZImp
import Derived.Test.YtakjlfcgciglgaaDoorSignI
namespace Go.Proofs.YtakjlfcgciglgaaDoor
open Go.RowKit Go.Shelf
attribute [local go_sem] Oper.semAt_some

theorem values_any (F : Fence) (n : Nat) (h : F.fn 52) (hro : F.round = none) (S : Int) (w : World) :
    CallsIn F n Tryd.prog 52 #[.int .i64 S] w fun e w' => e = .returned (.func (.func 65) #[] #[.pointer (some ⟨w.heap.size, 0, none⟩)]) ∧ w' = w.alloc (.cells #[.int .i64 S] 3) := by
  refine callsIn_of_wp Tryd.func52 rfl h ?_ hro
  simp only [Tryd.ntmps52, List.size_toArray, List.length_cons, List.length_nil, Nat.reduceAdd, Nat.reduceSub, Array.replicate_succ, Array.replicate_zero, List.push_toArray, List.append_toArray, List.nil_append, List.cons_append]
  gi_wp2
  go_ret
  exact ⟨rfl, rfl⟩

def encV (N : Nat) (x : Fin (N + 1)) : Array Value := #[.int .i64 (x.1 : Int)]

set_option maxRecDepth 100000 in
set_option maxHeartbeats 2000000 in
theorem vals_in (n N : Nat) (hn : 1 ≤ n) (l Bs S n₀ : Nat) (hN : 1 ≤ N ∧ N ≤ 6) (hS : S < 2 ^ (N + 1)) (hg : 1 < n₀) (J Jx : List (Fin (N + 1)) → World → Prop)
    (hY : ∀ pre x W, J pre W → pre.length < (valsA N S).length → YieldAt Fence.wide (n - 1) Tryd.prog l (encV N x) W fun e W' =>
      (e = .returned (.bool true) ∧ J (pre ++ [x]) W' ∧ Below n₀ W W') ∨ (e = .returned (.bool false) ∧ Jx (pre ++ [x]) W'))
    (W : World) (hBs : W.cell? ⟨Bs, 0, none⟩ = some (.int .i64 S)) (hT : TzAt W) (h0 : J [] W) :
    CallsIn Fence.wide n Tryd.prog 65 #[.func (.yield l) #[] #[], .pointer (some ⟨Bs, 0, none⟩)] W fun e W' => (∃ v, e = .returned v) ∧
      ((∃ ys, ys = valsA N S ∧ J ys W') ∨ (∃ pre, True ∧ Jx pre W')) := by
  have p7 := pow_le7 hN.2
  have hw : IntKind.u64.wrap (S : Int) = (S : Int) := by rw [IntKind.wrap_u64]; omega
  refine callsIn_of_wp Tryd.func65 rfl trivial ?_ rfl
  simp only [Tryd.ntmps65, List.size_toArray, List.length_cons, List.length_nil, Nat.reduceAdd, Nat.reduceSub, Array.replicate_succ, Array.replicate_zero, List.push_toArray, List.append_toArray, List.nil_append, List.cons_append]
  gi_wp2
  clear hw
  gi_loopw [3] (fun i wr => ∃ (r : Nat) (pre : List (Fin (N + 1))), i = .int .u64 r ∧ r < 2 ^ (N + 1) ∧ valsA N S = pre ++ valsA N r ∧ J pre wr ∧ TzAt wr)
    (fun i _ => (intOf i).toNat)
  case atStart => exact ⟨S, [], rfl, hS, rfl, h0, hT⟩
  case round =>
    obtain ⟨r, pre, rfl, hr, hv, hJ, hTr⟩ := hrel
    clear hBs
    by_cases hz : r = 0
    · subst hz
      rw [vals_zero N hN, List.append_nil] at hv
      gi_wp2
      go_end0
      exact ⟨⟨_, rfl⟩, .inl ⟨_, hv.symm, hJ⟩⟩
    · obtain ⟨k, hk, hck, hlt⟩ := vals_step hN hr hz
      have hlen : pre.length < (valsA N S).length := by rw [hv, hk]; simp
      obtain ⟨fn, tmps, assign, body, hy, hR⟩ := hY pre k wr hJ hlen
      unfold encV at hy
      rw [hck] at hy
      have ct := tz_any r (by omega) hz wr hTr
      have g1 : ((r : Int) == 0) = false := by simp; omega
      have g2 : ((r : Int) != 0) = true := by simp; omega
      have s1 : IntKind.u64.wrap ((r : Int) - 1) = ((r - 1 : Nat) : Int) := by rw [IntKind.wrap_u64]; omega
      have s2 : bits .and .u64 (r : Int) ((r - 1 : Nat) : Int) = ((r &&& (r - 1) : Nat) : Int) := bits_and_u64_nat r (r - 1) (by omega) (by omega)
      have hr2 : r &&& (r - 1) < 2 ^ (N + 1) := by omega
      rw [hk] at hv
      have Hv := Lib.hid hv
      have Hr2 := Lib.hid hr2
      have Hlt := Lib.hid hlt
      clear hk hck hv hr2 hlt hlen hr hz
      gi_wp2_with (refine ⟨trivial, ?_⟩; gi_at_call 66; refine (callsIn_wide.2 ct).mono ?_; rintro e w' ⟨rfl, rfl⟩)
      refine hR.mono ?_
      rintro e W3 (⟨rfl, hJ3, hk3⟩ | ⟨rfl, hJx3⟩)
      · have hT3 := hTr.below hk3 hg
        gi_wp2
        go_roundw
        case rel => exact ⟨r &&& (r - 1), pre ++ [k], rfl, Hr2.out, by rw [Hv.out]; simp, hJ3, hT3⟩
        case measure => have := Hlt.out; simp [intOf]; omega
      · gi_wp2
        refine bodyPost_ret (results_none rfl _ _ _) rfl ?_
        exact ⟨⟨_, rfl⟩, .inr ⟨_, trivial, hJx3⟩⟩

theorem vals_stops (n N : Nat) (hn : 1 ≤ n) (Bs S n₀ : Nat) (hN : 1 ≤ N ∧ N ≤ 6) (hS : S < 2 ^ (N + 1)) (hg : 1 < n₀) (w : World) (hB : Bs < w.heap.size)
    (hc : w.cell? ⟨Bs, 0, none⟩ = some (.int .i64 S)) (hT : TzAt w) :
    SeqStopsK Fence.wide n Tryd.prog 65 #[.pointer (some ⟨Bs, 0, none⟩)] (encV N) (Below n₀) (fun ys => ys = valsA N S) (fun _ => True) (valsA N S).length w := fun l J Jx W hW _ _ hY h0 =>
  vals_in n N hn l Bs S n₀ hN hS hg J Jx hY W ((hW.cell (p := ⟨Bs, 0, none⟩) hB).trans hc) (hT.below hW hT.lt) h0

end Go.Proofs.YtakjlfcgciglgaaDoor
