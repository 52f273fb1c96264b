/-
  impl.settings and the function that it hands back: it yields all values of the letters, by a, then by b, then by c: for every loop body that keeps what lay. The chain has 1 to 6 steps.
-/
import Derived.RangeFuncNested
import Derived.RangeFuncBound
import Derived.RangeFuncCalls
import Derived.RangeFuncLeaves
import Derived.Shelf.Abstract
import Derived.Shelf.RegionOpen
import Derived.WalkKit
import Derived.OwnWalkIn
import Derived.TacticsInMore
import Derived.LoopNIn
import Derived.LoopIn
import Derived.Test.YtnkebgkocpeonaaFAt
import Derived.Test.YtnkebgkocpeonaaAlw
namespace Go.Proofs.Ytnkebgkocpeonaa
open Go.RowKit Go.Shelf
attribute [local go_sem] Oper.semAt_some

theorem settings_any (F : Fence) (n : Nat) (h : F.fn 66) (hro : F.round = none) (N : Int) (w : World) :
    CallsIn F n Try.prog 66 #[.int .i64 N] w fun e w' => e = .returned (.func (.func 87) #[] #[.pointer (some ⟨w.heap.size, 0, none⟩)]) ∧ w' = w.alloc (.cells #[.int .i64 N] 3) := by
  refine callsIn_of_wp Try.func66 rfl h ?_ hro
  simp only [Try.ntmps66, List.size_toArray, List.length_cons, List.length_nil, Nat.reduceAdd, Nat.reduceSub, Array.replicate_succ, Array.replicate_zero, List.push_toArray, List.append_toArray, List.nil_append, List.cons_append]
  gi_wp2
  go_ret
  exact ⟨rfl, rfl⟩

/-- What a round keeps: the cell that the function reads. -/
def KpC (B : Nat) (X Y : World) : Prop := Y.cell? ⟨B, 0, none⟩ = X.cell? ⟨B, 0, none⟩
theorem kpC_t {B : Nat} {X Y Z : World} (h : KpC B X Y) (k : KpC B Y Z) : KpC B X Z := Eq.trans k h
theorem kpC_b {B : Nat} {w : World} (hB : B < w.heap.size) (W : World) (l : Nat) (o o' : Obj) (hl : w.heap.size ≤ l) (_ : W.heap[l]? = some o) (_ : o.isCells = false) (_ : o.isWalk = false) : KpC B W (W.putObj l o') :=
  World.cell?_of_block (World.putObj_heap_other (by show B ≠ l; omega))
theorem KpC.grown {B : Nat} {X Y : World} (hB : B < X.heap.size) (h : X.grownBy Y none) : KpC B X Y := World.cell?_of_block (h.block B hB (by simp))
theorem KpC.set {B : Nat} (X : World) {a : Addr} (h : a.block ≠ B) (v : Value) : KpC B X (X.setCell a v) := by unfold KpC; rw [World.cell?_setCell_other]; exact fun e => h (by rw [e])

/-- The settings' value at a place. -/
def encK (N : Nat) (k : Nat) : Array Value := #[.agg #[.int .i64 N, .int .i64 (tA N k), .int .i64 (tB N k), .int .i64 (tC N k)]]

set_option maxRecDepth 100000 in
set_option maxHeartbeats 2000000 in
theorem iter_in (F : Fence) (n : Nat) (h : F.fn 87) (hro : F.round = none) (hn : 1 ≤ n) (l Bs N : Nat) (hN : 1 ≤ N ∧ N ≤ 6) (J Jx : List Nat → World → Prop)
    (hY : ∀ pre x W, J pre W → pre.length < cub N → YieldAt F (n - 1) Try.prog l (encK N x) W fun e W' =>
      (e = .returned (.bool true) ∧ J (pre ++ [x]) W' ∧ KpC Bs W W') ∨ (e = .returned (.bool false) ∧ Jx (pre ++ [x]) W'))
    (W : World) (hBs : W.cell? ⟨Bs, 0, none⟩ = some (.int .i64 N)) (h0 : J [] W) :
    CallsIn F n Try.prog 87 #[.func (.yield l) #[] #[], .pointer (some ⟨Bs, 0, none⟩)] W fun e W' => (∃ v, e = .returned v) ∧
      ((∃ ys, ys = List.range (cub N) ∧ J ys W') ∨ (∃ pre, (∃ k, k < cub N ∧ pre = List.range (k + 1)) ∧ Jx pre W')) := by
  refine callsIn_of_wp Try.func87 rfl h ?_ hro
  simp only [Try.ntmps87, List.size_toArray, List.length_cons, List.length_nil, Nat.reduceAdd, Nat.reduceSub, Array.replicate_succ, Array.replicate_zero, List.push_toArray, List.append_toArray, List.nil_append, List.cons_append]
  gi_wp2
  gi_loopw [8] (fun i wr => ∃ a : Nat, a ≤ N + 1 ∧ i = .int .i64 a ∧ J (List.range (idx N a 0 0)) wr ∧ wr.cell? ⟨Bs, 0, none⟩ = some (.int .i64 N))
    (fun i _ => N + 1 - (intOf i).toNat)
  case atStart => exact ⟨0, by omega, rfl, by rw [idx_0]; exact h0, hBs⟩
  case round =>
    obtain ⟨a, ha, rfl, hJs, hnx⟩ := hrel
    have hs : wr.cell? ⟨Bs, 0, none⟩ = some (.int .i64 N) := hnx
    by_cases hlt : a < N + 1
    · have da : decide ((a : Int) < (N : Int) + 1) = true := decide_eq_true (by omega)
      gi_wp2
      gi_loopw [13] (fun i wq => ∃ b : Nat, b ≤ N + 1 ∧ i = .int .i64 b ∧ J (List.range (idx N a b 0)) wq ∧ wq.cell? ⟨Bs, 0, none⟩ = some (.int .i64 N))
        (fun i _ => N + 1 - (intOf i).toNat)
      case atStart => exact ⟨0, by omega, rfl, hJs, hnx⟩
      case round =>
        obtain ⟨b, hb, rfl, hJb, hnb⟩ := hrel
        have hsb : wr.cell? ⟨Bs, 0, none⟩ = some (.int .i64 N) := hnb
        by_cases hltb : b < N + 1
        · have db : decide ((b : Int) < (N : Int) + 1) = true := decide_eq_true (by omega)
          gi_wp2
          gi_loopw [18] (fun i wq => ∃ c : Nat, c ≤ N + 1 ∧ i = .int .i64 c ∧ J (List.range (idx N a b c)) wq ∧ wq.cell? ⟨Bs, 0, none⟩ = some (.int .i64 N))
            (fun i _ => N + 1 - (intOf i).toNat)
          case atStart => exact ⟨0, by omega, rfl, hJb, hnb⟩
          case round =>
            obtain ⟨c, hc, rfl, hJc, hnc⟩ := hrel
            have hsc : wr.cell? ⟨Bs, 0, none⟩ = some (.int .i64 N) := hnc
            by_cases hltc : c < N + 1
            · have dc : decide ((c : Int) < (N : Int) + 1) = true := decide_eq_true (by omega)
              have hlen : (List.range (idx N a b c)).length < cub N := by rw [List.length_range]; exact idx_lt (by omega) (by omega) (by omega)
              obtain ⟨fn, tmps, assign, body, hy, hR⟩ := hY _ (idx N a b c) wr hJc hlen
              unfold encK at hy
              rw [idx_A (by omega) (by omega) (by omega), idx_B (by omega) (by omega), idx_C (by omega)] at hy
              gi_wp2
              refine hR.mono ?_
              rintro e W3 (⟨rfl, hJ3, hk3⟩ | ⟨rfl, hJx3⟩)
              · gi_wp2
                go_roundw
                case rel => exact ⟨c + 1, by omega, by simp, by rw [idx_c, List.range_succ]; exact hJ3, Eq.trans hk3 hnc⟩
                case measure => simp [intOf]; omega
              · gi_wp2
                refine bodyPost_ret (results_none rfl _ _ _) rfl ?_
                exact ⟨⟨_, rfl⟩, .inr ⟨_, ⟨idx N a b c, idx_lt (by omega) (by omega) (by omega), List.range_succ.symm⟩, hJx3⟩⟩
            · obtain rfl : c = N + 1 := by omega
              rw [← idx_b] at hJc
              gi_wp2
              go_roundw
              case rel => exact ⟨b + 1, by omega, by simp, hJc, hnc⟩
              case measure => simp [intOf]; omega
        · obtain rfl : b = N + 1 := by omega
          rw [← idx_a] at hJb
          gi_wp2
          go_roundw
          case rel => exact ⟨a + 1, by omega, by simp, hJb, hnb⟩
          case measure => simp [intOf]; omega
    · obtain rfl : a = N + 1 := by omega
      rw [idx_end] at hJs
      gi_wp2
      go_end0
      exact ⟨⟨_, rfl⟩, .inl ⟨_, rfl, hJs⟩⟩

theorem settings_stops (F : Fence) (n : Nat) (h : F.fn 87) (hro : F.round = none) (hn : 1 ≤ n) (Bs N : Nat) (hN : 1 ≤ N ∧ N ≤ 6) (w : World) (hB : Bs < w.heap.size)
    (hc : w.cell? ⟨Bs, 0, none⟩ = some (.int .i64 N)) :
    SeqStopsK F n Try.prog 87 #[.pointer (some ⟨Bs, 0, none⟩)] (encK N) (KpC Bs) (fun ys => ys = List.range (cub N)) (fun pre => ∃ k, k < cub N ∧ pre = List.range (k + 1)) (cub N) w := fun l J Jx W hW _ _ hY h0 =>
  iter_in F n h hro hn l Bs N hN J Jx hY W ((hW.cell (p := ⟨Bs, 0, none⟩) hB).trans hc) h0

end Go.Proofs.Ytnkebgkocpeonaa
