/-
  Joined out of the texts ASet, Agn, ALow, AAlw, AChain, RI, RI2, ASpec2, AChainS: what each holds is told at its head.
-/
import Derived.RangeFuncNested
import Derived.RangeFuncBound
import Derived.RangeFuncCalls
import Derived.RangeFuncLeaves
import Derived.Shelf.Abstract
import Derived.Shelf.RegionOpen
import Derived.WalkKit
import Derived.OwnWalkIn
import Derived.TacticsInMore
import Derived.LoopNIn
import Derived.LoopIn
import Derived.Test.YtlnffpofbfigaaaGreatDoorM05400730
import Derived.Test.YtlnffpofbfigaaaGreatDoorM2359aa93
import Derived.WalkMore
import Derived.BigQuiet
import Derived.Deep.QuietTactic
import Derived.Test.YtlnffpofbfigaaaGreatDoorMdba168c0
import Derived.Test.YtlnffpofbfigaaaGreatDoorM323050c2
import Derived.Deep.RegionHeld3

/-
  impl.settings and the function that it hands back: it yields all values of the letters, by a, then by b, then by c: for every loop body that keeps what lay. The chain has 1 to 6 steps.
-/
namespace Go.Proofs.YtlnffpofbfigaaaGreatDoor
open Go.RowKit Go.Shelf
attribute [local go_sem] Oper.semAt_some

theorem settings_any (F : Fence) (n : Nat) (h : F.fn 186) (hro : F.round = none) (N : Int) (w : World) :
    CallsIn F n Tryz.prog 186 #[.int .i64 N] w fun e w' => e = .returned (.func (.func 206) #[] #[.pointer (some ⟨w.heap.size, 0, none⟩)]) ∧ w' = w.alloc (.cells #[.int .i64 N] 3) := by
  refine callsIn_of_wp Tryz.func186 rfl h ?_ hro
  simp only [Tryz.ntmps186, List.size_toArray, List.length_cons, List.length_nil, Nat.reduceAdd, Nat.reduceSub, Array.replicate_succ, Array.replicate_zero, List.push_toArray, List.append_toArray, List.nil_append, List.cons_append]
  gi_wp2
  go_ret
  exact ⟨rfl, rfl⟩

/-- What a round keeps: the cell that the function reads. -/
def KpC (B : Nat) (X Y : World) : Prop := Y.cell? ⟨B, 0, none⟩ = X.cell? ⟨B, 0, none⟩
theorem kpC_t {B : Nat} {X Y Z : World} (h : KpC B X Y) (k : KpC B Y Z) : KpC B X Z := Eq.trans k h
theorem kpC_b {B : Nat} {w : World} (hB : B < w.heap.size) (W : World) (l : Nat) (o o' : Obj) (hl : w.heap.size ≤ l) (_ : W.heap[l]? = some o) (_ : o.isCells = false) (_ : o.isWalk = false) : KpC B W (W.putObj l o') :=
  World.cell?_of_block (World.putObj_heap_other (by show B ≠ l; omega))
theorem KpC.grown {B : Nat} {X Y : World} (hB : B < X.heap.size) (h : X.grownBy Y none) : KpC B X Y := World.cell?_of_block (h.block B hB (by simp))
theorem KpC.set {B : Nat} (X : World) {a : Addr} (h : a.block ≠ B) (v : Value) : KpC B X (X.setCell a v) := by unfold KpC; rw [World.cell?_setCell_other]; exact fun e => h (by rw [e])

/-- The settings' value at a place. -/
def encK (N : Nat) (k : Nat) : Array Value := #[.agg #[.int .i64 N, .int .i64 (tA N k), .int .i64 (tB N k), .int .i64 (tC N k)]]

set_option maxRecDepth 100000 in
set_option maxHeartbeats 2000000 in
theorem iter_in (F : Fence) (n : Nat) (h : F.fn 206) (hro : F.round = none) (hn : 1 ≤ n) (l Bs N : Nat) (hN : 1 ≤ N ∧ N ≤ 6) (J Jx : List Nat → World → Prop)
    (hY : ∀ pre x W, J pre W → pre.length < cub N → YieldAt F (n - 1) Tryz.prog l (encK N x) W fun e W' =>
      (e = .returned (.bool true) ∧ J (pre ++ [x]) W' ∧ KpC Bs W W') ∨ (e = .returned (.bool false) ∧ Jx (pre ++ [x]) W'))
    (W : World) (hBs : W.cell? ⟨Bs, 0, none⟩ = some (.int .i64 N)) (h0 : J [] W) :
    CallsIn F n Tryz.prog 206 #[.func (.yield l) #[] #[], .pointer (some ⟨Bs, 0, none⟩)] W fun e W' => (∃ v, e = .returned v) ∧
      ((∃ ys, ys = List.range (cub N) ∧ J ys W') ∨ (∃ pre, (∃ k, k < cub N ∧ pre = List.range (k + 1)) ∧ Jx pre W')) := by
  refine callsIn_of_wp Tryz.func206 rfl h ?_ hro
  simp only [Tryz.ntmps206, List.size_toArray, List.length_cons, List.length_nil, Nat.reduceAdd, Nat.reduceSub, Array.replicate_succ, Array.replicate_zero, List.push_toArray, List.append_toArray, List.nil_append, List.cons_append]
  gi_wp2
  gi_loopw [8] (fun i wr => ∃ a : Nat, a ≤ N + 1 ∧ i = .int .i64 a ∧ J (List.range (idx N a 0 0)) wr ∧ wr.cell? ⟨Bs, 0, none⟩ = some (.int .i64 N))
    (fun i _ => N + 1 - (intOf i).toNat)
  case atStart => exact ⟨0, by omega, rfl, by rw [idx_0]; exact h0, hBs⟩
  case round =>
    obtain ⟨a, ha, rfl, hJs, hnx⟩ := hrel
    have hs : wr.cell? ⟨Bs, 0, none⟩ = some (.int .i64 N) := hnx
    by_cases hlt : a < N + 1
    · have da : decide ((a : Int) < (N : Int) + 1) = true := decide_eq_true (by omega)
      gi_wp2
      gi_loopw [13] (fun i wq => ∃ b : Nat, b ≤ N + 1 ∧ i = .int .i64 b ∧ J (List.range (idx N a b 0)) wq ∧ wq.cell? ⟨Bs, 0, none⟩ = some (.int .i64 N))
        (fun i _ => N + 1 - (intOf i).toNat)
      case atStart => exact ⟨0, by omega, rfl, hJs, hnx⟩
      case round =>
        obtain ⟨b, hb, rfl, hJb, hnb⟩ := hrel
        have hsb : wr.cell? ⟨Bs, 0, none⟩ = some (.int .i64 N) := hnb
        by_cases hltb : b < N + 1
        · have db : decide ((b : Int) < (N : Int) + 1) = true := decide_eq_true (by omega)
          gi_wp2
          gi_loopw [18] (fun i wq => ∃ c : Nat, c ≤ N + 1 ∧ i = .int .i64 c ∧ J (List.range (idx N a b c)) wq ∧ wq.cell? ⟨Bs, 0, none⟩ = some (.int .i64 N))
            (fun i _ => N + 1 - (intOf i).toNat)
          case atStart => exact ⟨0, by omega, rfl, hJb, hnb⟩
          case round =>
            obtain ⟨c, hc, rfl, hJc, hnc⟩ := hrel
            have hsc : wr.cell? ⟨Bs, 0, none⟩ = some (.int .i64 N) := hnc
            by_cases hltc : c < N + 1
            · have dc : decide ((c : Int) < (N : Int) + 1) = true := decide_eq_true (by omega)
              have hlen : (List.range (idx N a b c)).length < cub N := by rw [List.length_range]; exact idx_lt (by omega) (by omega) (by omega)
              obtain ⟨fn, tmps, assign, body, hy, hR⟩ := hY _ (idx N a b c) wr hJc hlen
              unfold encK at hy
              rw [idx_A (by omega) (by omega) (by omega), idx_B (by omega) (by omega), idx_C (by omega)] at hy
              gi_wp2
              refine hR.mono ?_
              rintro e W3 (⟨rfl, hJ3, hk3⟩ | ⟨rfl, hJx3⟩)
              · gi_wp2
                go_roundw
                case rel => exact ⟨c + 1, by omega, by simp, by rw [idx_c, List.range_succ]; exact hJ3, Eq.trans hk3 hnc⟩
                case measure => simp [intOf]; omega
              · gi_wp2
                refine bodyPost_ret (results_none rfl _ _ _) rfl ?_
                exact ⟨⟨_, rfl⟩, .inr ⟨_, ⟨idx N a b c, idx_lt (by omega) (by omega) (by omega), List.range_succ.symm⟩, hJx3⟩⟩
            · obtain rfl : c = N + 1 := by omega
              rw [← idx_b] at hJc
              gi_wp2
              go_roundw
              case rel => exact ⟨b + 1, by omega, by simp, hJc, hnc⟩
              case measure => simp [intOf]; omega
        · obtain rfl : b = N + 1 := by omega
          rw [← idx_a] at hJb
          gi_wp2
          go_roundw
          case rel => exact ⟨a + 1, by omega, by simp, hJb, hnb⟩
          case measure => simp [intOf]; omega
    · obtain rfl : a = N + 1 := by omega
      rw [idx_end] at hJs
      gi_wp2
      go_end0
      exact ⟨⟨_, rfl⟩, .inl ⟨_, rfl, hJs⟩⟩

theorem settings_stops (F : Fence) (n : Nat) (h : F.fn 206) (hro : F.round = none) (hn : 1 ≤ n) (Bs N : Nat) (hN : 1 ≤ N ∧ N ≤ 6) (w : World) (hB : Bs < w.heap.size)
    (hc : w.cell? ⟨Bs, 0, none⟩ = some (.int .i64 N)) :
    SeqStopsK F n Tryz.prog 206 #[.pointer (some ⟨Bs, 0, none⟩)] (encK N) (KpC Bs) (fun ys => ys = List.range (cub N)) (fun pre => ∃ k, k < cub N ∧ pre = List.range (k + 1)) (cub N) w := fun l J Jx W hW _ _ hY h0 =>
  iter_in F n h hro hn l Bs N hN J Jx hY W ((hW.cell (p := ⟨Bs, 0, none⟩) hB).trans hc) h0

end Go.Proofs.YtlnffpofbfigaaaGreatDoor

/-
  impl.against: the first values for which a formula is not true: a loop over what impl.settings yields, left by its label. The chain has 1 to 6 steps.
-/
namespace Go.Proofs.YtlnffpofbfigaaaGreatDoor
open Go.RowKit Go.Shelf
attribute [local go_sem] Oper.semAt_some

/-- A block of cells, as it lies. -/
def BlkAt (W : World) (b : Nat) (vs : Array Value) (T : TypeId) : Prop := W.heap[b]? = some (.cells vs T (0, 0))
theorem BlkAt.new (W : World) (vs : Array Value) (T : TypeId) : BlkAt (W.alloc (.cells vs T)) W.heap.size vs T := World.alloc_heap_new W _
theorem BlkAt.lt {W : World} {b : Nat} {vs : Array Value} {T : TypeId} (h : BlkAt W b vs T) : b < W.heap.size := (Array.getElem?_eq_some_iff.1 h).1
theorem BlkAt.kept {W W' : World} {row : Option Nat} {b : Nat} {vs : Array Value} {T : TypeId} (h : BlkAt W b vs T) (hg : W.grownBy W' row) (hne : some b ≠ row) : BlkAt W' b vs T := (hg.block b h.lt hne).trans h
theorem BlkAt.grown {W W' : World} {b : Nat} {vs : Array Value} {T : TypeId} (h : BlkAt W b vs T) (hg : W.grownBy W' none) : BlkAt W' b vs T := h.kept hg (by simp)
theorem BlkAt.alloc {W : World} {b : Nat} {vs : Array Value} {T : TypeId} (h : BlkAt W b vs T) (o : Obj) : BlkAt (W.alloc o) b vs T := h.grown (World.grownBy_alloc W o none)
theorem BlkAt.cell {W : World} {b : Nat} {vs : Array Value} {T : TypeId} (h : BlkAt W b vs T) {i : Nat} {v : Value} (hi : vs[i]? = some v) : W.cell? ⟨b, i, none⟩ = some v := by
  simp [World.cell?, show W.heap[b]? = _ from h, hi]
theorem BlkAt.frozen {W : World} {b : Nat} {vs : Array Value} {T : TypeId} (h : BlkAt W b vs T) (i : Nat) : W.frozen? ⟨b, i, none⟩ = false := by
  simp [World.frozen?, show W.heap[b]? = _ from h]
theorem BlkAt.set {W : World} {b : Nat} {vs : Array Value} {T : TypeId} (h : BlkAt W b vs T) (i : Nat) (v : Value) : BlkAt (W.setCell ⟨b, i, none⟩ v) b (vs.setIfInBounds i v) T := by
  unfold BlkAt World.setCell
  simp only [Array.getElem?_modify, if_true, show W.heap[b]? = _ from h, Option.map_some]
  rfl
theorem BlkAt.other {W : World} {b : Nat} {vs : Array Value} {T : TypeId} (h : BlkAt W b vs T) {a : Addr} (hne : a.block ≠ b) (v : Value) : BlkAt (W.setCell a v) b vs T := by
  unfold BlkAt World.setCell
  simp only [Array.getElem?_modify, if_neg hne]
  exact h
theorem blk_own {β : Type} (b : Nat) (T : TypeId) (f : β → Array Value) : Own (fun s W => BlkAt W b (f s) T) := fun s X Y row hs hg hrow =>
  hs.kept hg (fun e' => by obtain ⟨o, ho, hc⟩ := hrow b e'.symm; rw [show X.heap[b]? = _ from hs] at ho; cases ho; cases hc)
theorem Own.and {β : Type} {I I' : β → World → Prop} (h : Own I) (h' : Own I') : Own (fun s W => I s W ∧ I' s W) := fun s W W' row hs hg hr => ⟨h s W W' row hs.1 hg hr, h' s W W' row hs.2 hg hr⟩
theorem own_pure {β : Type} (p : β → Prop) : Own (fun s (_ : World) => p s) := fun _ _ _ _ hs _ _ => hs

def zero4 : Array Value := #[.int .i64 0, .int .i64 0, .int .i64 0, .int .i64 0]
def set4 (N k : Nat) : Array Value := #[.int .i64 N, .int .i64 (tA N k), .int .i64 (tB N k), .int .i64 (tC N k)]

/-- What lies before impl.against's loop, from block b on. -/
def AgBlk (b N : Nat) (t : Tr) (F : Array Value) (f : Bool) (W : World) : Prop :=
  BlkAt W b #[.int .i64 N] 3 ∧ BlkAt W (b + 1) #[.iface (nodeT t) (nodeP t)] 131 ∧ BlkAt W (b + 1 + 1) zero4 164 ∧ BlkAt W (b + 1 + 1 + 1) F 164 ∧ BlkAt W (b + 1 + 1 + 1 + 1) #[.bool f] 4 ∧ BlkAt W (b + 1 + 1 + 1 + 1 + 1) #[.int .i64 N] 3
theorem AgBlk.grown {b N : Nat} {t : Tr} {F : Array Value} {f : Bool} {W W' : World} (h : AgBlk b N t F f W) (hg : W.grownBy W' none) : AgBlk b N t F f W' :=
  ⟨h.1.grown hg, h.2.1.grown hg, h.2.2.1.grown hg, h.2.2.2.1.grown hg, h.2.2.2.2.1.grown hg, h.2.2.2.2.2.grown hg⟩
theorem AgBlk.own {β : Type} (b N : Nat) (t : Tr) (F : β → Array Value) (f : Bool) : Own (fun s W => AgBlk b N t (F s) f W) :=
  Own.and (blk_own _ _ _) (Own.and (blk_own _ _ _) (Own.and (blk_own _ _ _) (Own.and (blk_own _ _ F) (Own.and (blk_own _ _ _) (blk_own _ _ _)))))
theorem AgBlk.made (N : Nat) (t : Tr) (w : World) : AgBlk w.heap.size N t zero4 false ((((((w.alloc (.cells #[.int .i64 N] 3)).alloc (.cells #[.iface (nodeT t) (nodeP t)] 131)).alloc (.cells #[.int .i64 0, .int .i64 0, .int .i64 0, .int .i64 0] 164)).alloc (.cells #[.int .i64 0, .int .i64 0, .int .i64 0, .int .i64 0] 164)).alloc (.cells #[.bool false] 4)).alloc (.cells #[.int .i64 N] 3)) := by
  have h0 := BlkAt.new w #[.int .i64 N] 3
  generalize hw0 : w.alloc (.cells #[.int .i64 N] 3) = w0 at *
  have e0 : w0.heap.size = w.heap.size + 1 := by rw [← hw0]; simp
  have h1 := BlkAt.new w0 #[.iface (nodeT t) (nodeP t)] 131
  have k0 := h0.alloc (.cells #[.iface (nodeT t) (nodeP t)] 131)
  generalize hw1 : w0.alloc (.cells #[.iface (nodeT t) (nodeP t)] 131) = w1 at *
  have e1 : w1.heap.size = w.heap.size + 1 + 1 := by rw [← hw1]; simp [e0]
  have h2 := BlkAt.new w1 #[.int .i64 0, .int .i64 0, .int .i64 0, .int .i64 0] 164
  generalize hw2 : w1.alloc (.cells #[.int .i64 0, .int .i64 0, .int .i64 0, .int .i64 0] 164) = w2 at *
  have g2 : w1.grownBy w2 none := by rw [← hw2]; exact World.grownBy_alloc _ _ none
  have e2 : w2.heap.size = w.heap.size + 1 + 1 + 1 := by rw [← hw2]; simp [e1]
  have h3 := BlkAt.new w2 #[.int .i64 0, .int .i64 0, .int .i64 0, .int .i64 0] 164
  generalize hw3 : w2.alloc (.cells #[.int .i64 0, .int .i64 0, .int .i64 0, .int .i64 0] 164) = w3 at *
  have g3 : w2.grownBy w3 none := by rw [← hw3]; exact World.grownBy_alloc _ _ none
  have e3 : w3.heap.size = w.heap.size + 1 + 1 + 1 + 1 := by rw [← hw3]; simp [e2]
  have h4 := BlkAt.new w3 #[.bool false] 4
  generalize hw4 : w3.alloc (.cells #[.bool false] 4) = w4 at *
  have g4 : w3.grownBy w4 none := by rw [← hw4]; exact World.grownBy_alloc _ _ none
  have e4 : w4.heap.size = w.heap.size + 1 + 1 + 1 + 1 + 1 := by rw [← hw4]; simp [e3]
  have h5 := BlkAt.new w4 #[.int .i64 N] 3
  have g5 : w4.grownBy (w4.alloc (.cells #[.int .i64 N] 3)) none := World.grownBy_alloc _ _ none
  rw [e0] at h1
  rw [e1] at h2
  rw [e2] at h3
  rw [e3] at h4
  rw [e4] at h5
  have g := grownBy_trans g2 (grownBy_trans g3 (grownBy_trans g4 g5))
  exact ⟨k0.grown g, h1.grown g, h2.grown (grownBy_trans g3 (grownBy_trans g4 g5)), h3.grown (grownBy_trans g4 g5), h4.grown g5, h5⟩

/-- The first values and the sign that there are some, stored. -/
theorem AgBlk.left {b N : Nat} {t : Tr} {W : World} (h : AgBlk b N t zero4 false W) (x : Nat) :
    AgBlk b N t (set4 N x) true (((((W.setCell ⟨b + 1 + 1 + 1, 0, none⟩ (.int .i64 N)).setCell ⟨b + 1 + 1 + 1, 1, none⟩ (.int .i64 (tA N x))).setCell ⟨b + 1 + 1 + 1, 2, none⟩ (.int .i64 (tB N x))).setCell ⟨b + 1 + 1 + 1, 3, none⟩ (.int .i64 (tC N x))).setCell ⟨b + 1 + 1 + 1 + 1, 0, none⟩ (.bool true)) := by
  obtain ⟨h0, h1, h2, h3, h4, h5⟩ := h
  refine ⟨?_, ?_, ?_, ?_, ?_, ?_⟩
  · exact ((((h0.other (by simp <;> omega) _).other (by simp <;> omega) _).other (by simp <;> omega) _).other (by simp <;> omega) _).other (by simp <;> omega) _
  · exact ((((h1.other (by simp <;> omega) _).other (by simp <;> omega) _).other (by simp <;> omega) _).other (by simp <;> omega) _).other (by simp <;> omega) _
  · exact ((((h2.other (by simp <;> omega) _).other (by simp <;> omega) _).other (by simp <;> omega) _).other (by simp <;> omega) _).other (by simp <;> omega) _
  · exact ((((h3.set 0 _).set 1 _).set 2 _).set 3 _).other (by simp <;> omega) _
  · exact ((((h4.other (by simp <;> omega) _).other (by simp <;> omega) _).other (by simp <;> omega) _).other (by simp <;> omega) _).set 0 _
  · exact ((((h5.other (by simp <;> omega) _).other (by simp <;> omega) _).other (by simp <;> omega) _).other (by simp <;> omega) _).other (by simp <;> omega) _

theorem grown_of {w w' : World} (h : Below w.heap.size w w') : w.grownBy w' none := ⟨h.os, h.tape, h.output, h.size, fun k hk _ => h.block k hk⟩
/-- A value of four cells stored, an order drawn. -/
theorem BlkAt.stored {W : World} {b : Nat} {u0 u1 u2 u3 : Value} {T : TypeId} (h : BlkAt W b #[u0, u1, u2, u3] T) (v0 v1 v2 v3 : Value) :
    BlkAt ((((W.setCell ⟨b, 0, none⟩ v0).setCell ⟨b, 1, none⟩ v1).setCell ⟨b, 2, none⟩ v2).setCell ⟨b, 3, none⟩ v3).drew b #[v0, v1, v2, v3] T :=
  (((h.set 0 v0).set 1 v1).set 2 v2).set 3 v3

/-- What impl.against answers. -/
def agArr (N : Nat) (t : Tr) : Array Value := match agN N t with | some k => set4 N k | none => zero4
theorem agArr_n {N : Nat} {t : Tr} (h : agN N t = none) : agArr N t = zero4 := by unfold agArr; rw [h]
theorem agArr_s {N : Nat} {t : Tr} {k : Nat} (h : agN N t = some k) : agArr N t = set4 N k := by unfold agArr; rw [h]

set_option maxRecDepth 100000 in
set_option maxHeartbeats 4000000 in
theorem against_in (N : Nat) (hN : 1 ≤ N ∧ N ≤ 6) (t : Tr) (w : World) :
    Calls Tryz.prog 185 #[.int .i64 N, .iface (nodeT t) (nodeP t)] w fun e w' => e = .returned (.tuple #[.agg (agArr N t), .bool (agN N t).isSome]) ∧ w.grownBy w' none := by
  refine (callsIn_wide (n := 5)).1 ?_
  refine callsIn_of_wp_marks Tryz.func185 rfl trivial ?_ rfl
  simp only [Tryz.ntmps185, List.size_toArray, List.length_cons, List.length_nil, Nat.reduceAdd, Nat.reduceSub, Array.replicate_succ, Array.replicate_zero, List.push_toArray, List.append_toArray, List.nil_append, List.cons_append]
  gi_wp2
  refine (wpIn_wide (n := 5)).2 (wp_scope_straight ((wpIn_wide (n := 5)).1 ?_))
  generalize hQn : Exit.noGoto _ = Qn
  have hQ := Lib.hid hQn
  clear hQn
  gi_wp2
  apply wpIn_label
  gi_wp2_with (refine ⟨trivial, ?_⟩; gi_at_call 186; refine (settings_any _ _ trivial rfl _ _).mono ?_; rintro e w' ⟨rfl, rfl⟩)
  have hM := AgBlk.made N t w
  have hg : w.grownBy _ none := grownBy_trans (World.grownBy_alloc w (.cells #[.int .i64 N] 3) none) (grownBy_trans (World.grownBy_alloc _ (.cells #[.iface (nodeT t) (nodeP t)] 131) none) (grownBy_trans (World.grownBy_alloc _ (.cells #[.int .i64 0, .int .i64 0, .int .i64 0, .int .i64 0] 164) none) (grownBy_trans (World.grownBy_alloc _ (.cells #[.int .i64 0, .int .i64 0, .int .i64 0, .int .i64 0] 164) none) (grownBy_trans (World.grownBy_alloc _ (.cells #[.bool false] 4) none) (World.grownBy_alloc _ (.cells #[.int .i64 N] 3) none)))))
  obtain ⟨W0, hW0⟩ : ∃ W0, ((((((w.alloc (.cells #[.int .i64 N] 3)).alloc (.cells #[.iface (nodeT t) (nodeP t)] 131)).alloc (.cells #[.int .i64 0, .int .i64 0, .int .i64 0, .int .i64 0] 164)).alloc (.cells #[.int .i64 0, .int .i64 0, .int .i64 0, .int .i64 0] 164)).alloc (.cells #[.bool false] 4)).alloc (.cells #[.int .i64 N] 3)) = W0 := ⟨_, rfl⟩
  rw [hW0] at hM hg ⊢
  have hsz : W0.heap.size = w.heap.size + 1 + 1 + 1 + 1 + 1 + 1 := by rw [← hW0]; simp
  clear hW0
  have hB0 : Below w.heap.size w W0 := below_of hg
  clear hg
  refine wpIn_rangeFunc_ownH rfl (show 1 ≤ 5 from by decide) (gf := 206) (lb := #[.pointer (some ⟨w.heap.size + 1 + 1 + 1 + 1 + 1, 0, none⟩)]) rfl trivial (enters_of Tryz.func206 (by kernel_rfl) rfl)
    (settings_stops Fence.wide (5 - 1) trivial rfl (by decide) (w.heap.size + 1 + 1 + 1 + 1 + 1) N hN W0 (by omega) (hM.2.2.2.2.2.cell rfl)) kpC_t (kpC_b (by omega)) (Below.refl _ _) (fun _ => rfl)
    (fun pre W => (AgBlk w.heap.size N t zero4 false W ∧ ∀ x ∈ pre, atK N t x = N) ∧ Below w.heap.size w W)
    (fun c pre W => ((∃ q x, pre = q ++ [x] ∧ (∀ y ∈ q, atK N t y = N) ∧ atK N t x ≠ N ∧ AgBlk w.heap.size N t (set4 N x) true W) ∧ c = .exit 0) ∧ Below w.heap.size w W)
    (OwnFrom.and (Own.from (Own.and (AgBlk.own _ _ _ _ _) (own_pure _)) _) (ownFrom_below (Nat.le_refl _) (by omega)))
    (fun c => OwnFrom.and (Own.from (Own.and (fun s A B row hs hg hr => by obtain ⟨q, x, h1, h2, h3, h4⟩ := hs; exact ⟨q, x, h1, h2, h3, AgBlk.own (β := Unit) _ _ _ (fun _ => set4 N x) _ () A B row h4 hg hr⟩) (own_pure _)) _) (ownFrom_below (Nat.le_refl _) (by omega)))
    ⟨⟨hM, by simp⟩, hB0⟩
    (fun x a' W => ∃ b, w.heap.size + 1 + 1 + 1 + 1 + 1 < b ∧ BlkAt W b (set4 N x) 164 ∧ a' = { tmps := #[.int .i64 N, .iface (nodeT t) (nodeP t), .pointer (some ⟨w.heap.size, 0, none⟩), .pointer (some ⟨w.heap.size + 1, 0, none⟩), .pointer (some ⟨w.heap.size + 1 + 1, 0, none⟩), .bool false, .pointer (some ⟨w.heap.size + 1 + 1 + 1, 0, none⟩), .pointer (some ⟨w.heap.size + 1 + 1 + 1 + 1, 0, none⟩), .pointer (some ⟨b, 0, none⟩), .int .i64 N, .func (.func 206) #[] #[.pointer (some ⟨w.heap.size + 1 + 1 + 1 + 1 + 1, 0, none⟩)], .agg #[.int .i64 N, .int .i64 (tA N x), .int .i64 (tB N x), .int .i64 (tC N x)], undef, undef, undef, undef, undef, undef, undef, undef], defers := [] })
    (fun x a' => Own.from (fun s A B row hs hg hr => by obtain ⟨b, h1, h2, h3⟩ := hs; exact ⟨b, h1, blk_own (β := Unit) b _ (fun _ => set4 N x) () A B row h2 hg hr, h3⟩) _) ?assign ?body ?done ?stop
  case assign =>
    rintro l pre x W K ⟨⟨hA, hp⟩, hB⟩ hK
    simp only [encK]
    gi_wp2
    exact hK _ _ ((KeepsOthers.alloc _ _).from _) (KpC.grown hA.2.2.2.2.2.lt (World.grownBy_alloc _ _ none)) ⟨⟨hA.grown (World.grownBy_alloc _ _ none), hp⟩, hB.alloc hB.size _⟩ ⟨W.heap.size, hA.2.2.2.2.2.lt, BlkAt.new W _ _, rfl⟩
  case body =>
    rintro l pre x a' W hl ⟨r, hr⟩ ⟨⟨hA, hp⟩, hB⟩ ⟨b, hb, hbx, rfl⟩ hlt
    have n0 : W.cell? ⟨w.heap.size, 0, none⟩ = some (.int .i64 N) := hA.1.cell rfl
    have t0 : W.cell? ⟨w.heap.size + 1, 0, none⟩ = some (.iface (nodeT t) (nodeP t)) := hA.2.1.cell rfl
    have x0 : W.cell? ⟨b, 0, none⟩ = some (.int .i64 N) := hbx.cell rfl
    have x1 : W.cell? ⟨b, 1, none⟩ = some (.int .i64 (tA N x)) := hbx.cell rfl
    have x2 : W.cell? ⟨b, 2, none⟩ = some (.int .i64 (tB N x)) := hbx.cell rfl
    have x3 : W.cell? ⟨b, 3, none⟩ = some (.int .i64 (tC N x)) := hbx.cell rfl
    have cv : ∀ w : World, Calls Tryz.prog 160 #[.agg #[.int .i64 N, .int .i64 (tA N x), .int .i64 (tB N x), .int .i64 (tC N x)], .iface (nodeT t) (nodeP t)] w fun e w' => e = .returned (.int .i64 (atK N t x)) ∧ w.grownBy w' none := vt_all (tri_ok hN x) t
    have hd : 1 ≤ 5 - 1 - 1 := by decide
    have hmx : Tryz.prog.follows .mixedOrders = true := by kernel_rfl
    have b0 : W.cell? ⟨w.heap.size + 1 + 1 + 1, 0, none⟩ = some (.int .i64 0) := hA.2.2.2.1.cell rfl
    cases hv : (atK N t x != (N : Int))
    · have he : atK N t x = N := by simpa using hv
      gi_wp2
      gi_region_with_o (refine ⟨trivial, ?_⟩; gi_at_call 160; refine (CallsIn.inRound l (callsIn_wide.2 (cv _))).mono ?_; rintro e w' ⟨rfl, gx⟩; have n0' := cell_grown (w1 := W.drew) n0 gx)
      all_goals
        have g := grownBy_trans (grownBy_drew (grownBy_refl W none)) gx
        gi_wp2
        exact ⟨(KeepsOthers.of_grownBy g (by simp)).from _, KpC.grown hA.2.2.2.2.2.lt g, ⟨hA.grown g, fun y hy => (List.mem_append.1 hy).elim (hp y) (fun e => by simp at e; rw [e]; exact he)⟩, hB.trans ((below_of g).mono hB.size)⟩
    · have he : atK N t x ≠ N := by simpa using hv
      gi_wp2
      gi_region_with_o (refine ⟨trivial, ?_⟩; gi_at_call 160; refine (CallsIn.inRound l (callsIn_wide.2 (cv _))).mono ?_; rintro e w' ⟨rfl, gx⟩; have n0' := cell_grown (w1 := W.drew) n0 gx; have x0' := cell_grown (w1 := W.drew) x0 gx; have x1' := cell_grown (w1 := W.drew) x1 gx; have x2' := cell_grown (w1 := W.drew) x2 gx; have x3' := cell_grown (w1 := W.drew) x3 gx)
      all_goals
        have g := grownBy_trans (grownBy_drew (grownBy_refl W none)) gx
        have hA' := hA.grown g
        have f0 : w'.cell? ⟨w.heap.size + 1 + 1 + 1, 0, none⟩ = some (.int .i64 0) := hA'.2.2.2.1.cell rfl
        have f1 : w'.cell? ⟨w.heap.size + 1 + 1 + 1, 1, none⟩ = some (.int .i64 0) := hA'.2.2.2.1.cell rfl
        have f2 : w'.cell? ⟨w.heap.size + 1 + 1 + 1, 2, none⟩ = some (.int .i64 0) := hA'.2.2.2.1.cell rfl
        have f3 : w'.cell? ⟨w.heap.size + 1 + 1 + 1, 3, none⟩ = some (.int .i64 0) := hA'.2.2.2.1.cell rfl
        have z0 := hA'.2.2.2.1.frozen 0
        have z1 := hA'.2.2.2.1.frozen 1
        have z2 := hA'.2.2.2.1.frozen 2
        have z3 := hA'.2.2.2.1.frozen 3
        have q0 : w'.cell? ⟨w.heap.size + 1 + 1 + 1 + 1, 0, none⟩ = some (.bool false) := hA'.2.2.2.2.1.cell rfl
        have r0 := hA'.2.2.2.2.1.frozen 0
        gi_wp2
        exact ⟨((KeepsOthers.of_grownBy g (by simp)).trans (((((KeepsOthers.setCell _ _ _).trans (KeepsOthers.setCell _ _ _)).trans (KeepsOthers.setCell _ _ _)).trans (KeepsOthers.setCell _ _ _)).trans (KeepsOthers.setCell _ _ _))).from _, ⟨⟨pre, x, rfl, hp, he, hA'.left x⟩, rfl⟩,
          hB.trans (((((((below_of g).mono hB.size).setCell (by simp; omega) _).setCell (by simp; omega) _).setCell (by simp; omega) _).setCell (by simp; omega) _).setCell (by simp; omega) _)⟩
  case done =>
    rintro D ys W hD rfl ⟨⟨hA, hp⟩, hB⟩ hK
    have f0 : W.cell? ⟨w.heap.size + 1 + 1 + 1, 0, none⟩ = some (.int .i64 0) := hA.2.2.2.1.cell rfl
    have f1 : W.cell? ⟨w.heap.size + 1 + 1 + 1, 1, none⟩ = some (.int .i64 0) := hA.2.2.2.1.cell rfl
    have f2 : W.cell? ⟨w.heap.size + 1 + 1 + 1, 2, none⟩ = some (.int .i64 0) := hA.2.2.2.1.cell rfl
    have f3 : W.cell? ⟨w.heap.size + 1 + 1 + 1, 3, none⟩ = some (.int .i64 0) := hA.2.2.2.1.cell rfl
    have z0 := hA.2.2.1.frozen 0
    have z1 := hA.2.2.1.frozen 1
    have z2 := hA.2.2.1.frozen 2
    have z3 := hA.2.2.1.frozen 3
    have e0 : W.cell? ⟨w.heap.size + 1 + 1, 0, none⟩ = some (.int .i64 0) := hA.2.2.1.cell rfl
    have e1 : W.cell? ⟨w.heap.size + 1 + 1, 1, none⟩ = some (.int .i64 0) := hA.2.2.1.cell rfl
    have e2 : W.cell? ⟨w.heap.size + 1 + 1, 2, none⟩ = some (.int .i64 0) := hA.2.2.1.cell rfl
    have e3 : W.cell? ⟨w.heap.size + 1 + 1, 3, none⟩ = some (.int .i64 0) := hA.2.2.1.cell rfl
    have q0 : W.cell? ⟨w.heap.size + 1 + 1 + 1 + 1, 0, none⟩ = some (.bool false) := hA.2.2.2.2.1.cell rfl
    have hmx : Tryz.prog.follows .mixedOrders = true := by kernel_rfl
    have hag : agN N t = none := agN_no fun j hj => hp j (List.mem_range.2 hj)
    have hR := hA.2.2.1.stored (.int .i64 0) (.int .i64 0) (.int .i64 0) (.int .i64 0)
    have hK' := (((((KeepsOthers.setCell W ⟨w.heap.size + 1 + 1, 0, none⟩ (.int .i64 0)).trans (KeepsOthers.setCell _ ⟨w.heap.size + 1 + 1, 1, none⟩ (.int .i64 0))).trans (KeepsOthers.setCell _ ⟨w.heap.size + 1 + 1, 2, none⟩ (.int .i64 0))).trans (KeepsOthers.setCell _ ⟨w.heap.size + 1 + 1, 3, none⟩ (.int .i64 0))).trans (KeepsOthers.drew _)).same D _ hK rfl
    have hB' : Below w.heap.size w _ := ((((hB.setCell (p := ⟨w.heap.size + 1 + 1, 0, none⟩) (by simp <;> omega) (.int .i64 0)).setCell (p := ⟨w.heap.size + 1 + 1, 1, none⟩) (by simp <;> omega) (.int .i64 0)).setCell (p := ⟨w.heap.size + 1 + 1, 2, none⟩) (by simp <;> omega) (.int .i64 0)).setCell (p := ⟨w.heap.size + 1 + 1, 3, none⟩) (by simp <;> omega) (.int .i64 0)).drew
    gi_wp2
    refine (wpIn_wide (n := 5)).2 ?_
    go_region
    all_goals
      gi_wp2
      rw [← hQ.out, Exit.noGoto_ret]
      refine ⟨by simp, .inl ⟨_, _, rfl, run_takeDeferred hK', ?_⟩⟩
      have c0 := cell_kept (hR.cell (i := 0) rfl) (grownBy_putObj' _ D (.deferred none)) (fun r e => by cases e; exact ⟨_, hK', rfl⟩)
      have c1 := cell_kept (hR.cell (i := 1) rfl) (grownBy_putObj' _ D (.deferred none)) (fun r e => by cases e; exact ⟨_, hK', rfl⟩)
      have c2 := cell_kept (hR.cell (i := 2) rfl) (grownBy_putObj' _ D (.deferred none)) (fun r e => by cases e; exact ⟨_, hK', rfl⟩)
      have c3 := cell_kept (hR.cell (i := 3) rfl) (grownBy_putObj' _ D (.deferred none)) (fun r e => by cases e; exact ⟨_, hK', rfl⟩)
      refine ⟨.tuple #[.agg zero4, .bool false], ?_, by rw [agArr_n hag, hag]; rfl, grown_of (hB'.trans (belowK_b (w := w) (Nat.le_refl _) _ D _ _ (by omega) hK' rfl rfl))⟩
      simp [results, Tryz.f185, go_sem, c0, c1, c2, c3]
      rfl
  case stop =>
    rintro D c pre W hD ⟨k, hk, rfl⟩ ⟨⟨⟨q, x, hq, hp, hx, hA⟩, rfl⟩, hB⟩ hK
    rw [List.range_succ] at hq
    obtain ⟨rfl, hx'⟩ := List.append_inj' hq rfl
    obtain rfl : k = x := by simpa using hx'
    have hag : agN N t = some k := agN_at hk (fun j hj => hp j (List.mem_range.2 hj)) hx
    have f0 : W.cell? ⟨w.heap.size + 1 + 1 + 1, 0, none⟩ = some (.int .i64 N) := hA.2.2.2.1.cell rfl
    have f1 : W.cell? ⟨w.heap.size + 1 + 1 + 1, 1, none⟩ = some (.int .i64 (tA N k)) := hA.2.2.2.1.cell rfl
    have f2 : W.cell? ⟨w.heap.size + 1 + 1 + 1, 2, none⟩ = some (.int .i64 (tB N k)) := hA.2.2.2.1.cell rfl
    have f3 : W.cell? ⟨w.heap.size + 1 + 1 + 1, 3, none⟩ = some (.int .i64 (tC N k)) := hA.2.2.2.1.cell rfl
    have z0 := hA.2.2.1.frozen 0
    have z1 := hA.2.2.1.frozen 1
    have z2 := hA.2.2.1.frozen 2
    have z3 := hA.2.2.1.frozen 3
    have e0 : W.cell? ⟨w.heap.size + 1 + 1, 0, none⟩ = some (.int .i64 0) := hA.2.2.1.cell rfl
    have e1 : W.cell? ⟨w.heap.size + 1 + 1, 1, none⟩ = some (.int .i64 0) := hA.2.2.1.cell rfl
    have e2 : W.cell? ⟨w.heap.size + 1 + 1, 2, none⟩ = some (.int .i64 0) := hA.2.2.1.cell rfl
    have e3 : W.cell? ⟨w.heap.size + 1 + 1, 3, none⟩ = some (.int .i64 0) := hA.2.2.1.cell rfl
    have q0 : W.cell? ⟨w.heap.size + 1 + 1 + 1 + 1, 0, none⟩ = some (.bool true) := hA.2.2.2.2.1.cell rfl
    have hmx : Tryz.prog.follows .mixedOrders = true := by kernel_rfl
    have hR := hA.2.2.1.stored (.int .i64 N) (.int .i64 (tA N k)) (.int .i64 (tB N k)) (.int .i64 (tC N k))
    have hK' := (((((KeepsOthers.setCell W ⟨w.heap.size + 1 + 1, 0, none⟩ (.int .i64 N)).trans (KeepsOthers.setCell _ ⟨w.heap.size + 1 + 1, 1, none⟩ (.int .i64 (tA N k)))).trans (KeepsOthers.setCell _ ⟨w.heap.size + 1 + 1, 2, none⟩ (.int .i64 (tB N k)))).trans (KeepsOthers.setCell _ ⟨w.heap.size + 1 + 1, 3, none⟩ (.int .i64 (tC N k)))).trans (KeepsOthers.drew _)).same D _ hK rfl
    have hB' : Below w.heap.size w _ := ((((hB.setCell (p := ⟨w.heap.size + 1 + 1, 0, none⟩) (by simp <;> omega) (.int .i64 N)).setCell (p := ⟨w.heap.size + 1 + 1, 1, none⟩) (by simp <;> omega) (.int .i64 (tA N k))).setCell (p := ⟨w.heap.size + 1 + 1, 2, none⟩) (by simp <;> omega) (.int .i64 (tB N k))).setCell (p := ⟨w.heap.size + 1 + 1, 3, none⟩) (by simp <;> omega) (.int .i64 (tC N k))).drew
    gi_wp2
    refine (wpIn_wide (n := 5)).2 ?_
    go_region
    all_goals
      gi_wp2
      rw [← hQ.out, Exit.noGoto_ret]
      refine ⟨by simp, .inl ⟨_, _, rfl, run_takeDeferred hK', ?_⟩⟩
      have c0 := cell_kept (hR.cell (i := 0) rfl) (grownBy_putObj' _ D (.deferred none)) (fun r e => by cases e; exact ⟨_, hK', rfl⟩)
      have c1 := cell_kept (hR.cell (i := 1) rfl) (grownBy_putObj' _ D (.deferred none)) (fun r e => by cases e; exact ⟨_, hK', rfl⟩)
      have c2 := cell_kept (hR.cell (i := 2) rfl) (grownBy_putObj' _ D (.deferred none)) (fun r e => by cases e; exact ⟨_, hK', rfl⟩)
      have c3 := cell_kept (hR.cell (i := 3) rfl) (grownBy_putObj' _ D (.deferred none)) (fun r e => by cases e; exact ⟨_, hK', rfl⟩)
      refine ⟨.tuple #[.agg (set4 N k), .bool true], ?_, by rw [agArr_s hag, hag]; rfl, grown_of (hB'.trans (belowK_b (w := w) (Nat.le_refl _) _ D _ _ (by omega) hK' rfl rfl))⟩
      simp [results, Tryz.f185, go_sem, c0, c1, c2, c3]
      rfl

end Go.Proofs.YtlnffpofbfigaaaGreatDoor

/-
  impl.chainTree and impl.LeastAt: the least value over what impl.settings yields. No condition.
-/
namespace Go.Proofs.YtlnffpofbfigaaaGreatDoor
open Go.RowKit Go.Shelf
attribute [local go_sem] Oper.semAt_some

theorem chain_no (n : Int) (s : ByteArray) (w : World) (h : inB n 1 6 = false ∨ fOf (bl s) = none) :
    Calls Tryz.prog 163 #[.int .i64 n, .string s] w (TreeNo w) := by
  cases hi : inB n 1 6
  · have cs := steps_any n w
    rw [hi] at cs
    clear h
    go_enter Tryz.func163, Tryz.ntmps163
    go_wp2_with (go_at_call 107; refine cs.mono ?_; rintro e w' ⟨rfl, rfl⟩)
    go_ret2
    exact ⟨_, .inl rfl, rfl, grownBy_refl _ _⟩
  · have ho : fOf (bl s) = none := h.resolve_left (by rw [hi]; simp)
    have cs := steps_any n w
    rw [hi] at cs
    have ct := tree_no s w ho
    clear h ho
    go_enter Tryz.func163, Tryz.ntmps163
    go_wp2_with (go_at_call 107; refine cs.mono ?_; rintro e w' ⟨rfl, rfl⟩)
    refine ct.mono ?_
    rintro e w1 ⟨v, hv, rfl, g1⟩
    clear ct cs
    go_wp2_with fail
    go_ret2
    exact ⟨v, hv, rfl, g1⟩

theorem chain_yes {n : Int} (s : ByteArray) (w : World) {t : Tr} (hi : inB n 1 6 = true) (ho : fOf (bl s) = some t) :
    Calls Tryz.prog 163 #[.int .i64 n, .string s] w (TreeYes t w) := by
  have cs := steps_any n w
  rw [hi] at cs
  have ct := tree_yes s w ho
  clear ho
  go_enter Tryz.func163, Tryz.ntmps163
  go_wp2_with (go_at_call 107; refine cs.mono ?_; rintro e w' ⟨rfl, rfl⟩)
  refine ct.mono ?_
  rintro e w1 ⟨rfl, g1⟩
  clear ct cs
  go_wp2_with fail
  go_ret2
  exact ⟨rfl, g1⟩

theorem least_no (n : Int) (s : ByteArray) (w : World) (h : inB n 1 6 = false ∨ fOf (bl s) = none) :
    Calls Tryz.prog 151 #[.int .i64 n, .string s] w fun e w' => e = .returned (.int .i64 (-1)) ∧ w.grownBy w' none := by
  have cc := chain_no n s w h
  clear h
  go_enter Tryz.func151, Tryz.ntmps151
  go_wp2_with fail
  refine cc.mono ?_
  rintro e w1 ⟨v, hv, rfl, g1⟩
  clear cc
  rcases hv with rfl | ⟨T, p, rfl⟩
  all_goals
    go_wp2_with fail
    go_ret
    exact ⟨rfl, grownBy_trans g1 (World.grownBy_alloc _ _ none)⟩

/-- The least value over what has come. -/
def lowL (N : Nat) (t : Tr) (pre : List Nat) : Int := pre.foldl (fun s k => if s ≤ atK N t k then s else atK N t k) (N : Int)
theorem lowL_s1 {N : Nat} {t : Tr} {pre : List Nat} {x : Nat} (h : lowL N t pre ≤ atK N t x) : lowL N t (pre ++ [x]) = lowL N t pre := by
  unfold lowL at *
  rw [List.foldl_append]
  exact if_pos h
theorem lowL_s2 {N : Nat} {t : Tr} {pre : List Nat} {x : Nat} (h : ¬ lowL N t pre ≤ atK N t x) : lowL N t (pre ++ [x]) = atK N t x := by
  unfold lowL at *
  rw [List.foldl_append]
  exact if_neg h
theorem lowL_range (N : Nat) (t : Tr) : ∀ K, lowL N t (List.range K) = lowU N t K := by
  intro K
  induction K with
  | zero => rfl
  | succ K ih =>
    rw [List.range_succ]
    by_cases h : lowL N t (List.range K) ≤ atK N t K
    · rw [lowL_s1 h, ih]
      rw [ih] at h
      exact (lowU_s1 h).symm
    · rw [lowL_s2 h]
      rw [ih] at h
      exact (lowU_s2 h).symm

/-- What lies before impl.LeastAt's loop, from block b on. -/
def LoBlk (b N : Nat) (t : Tr) (v : Int) (W : World) : Prop :=
  BlkAt W b #[.iface (nodeT t) (nodeP t)] 131 ∧ BlkAt W (b + 1) #[.int .i64 v] 3 ∧ BlkAt W (b + 1 + 1) #[.int .i64 N] 3
theorem LoBlk.grown {b N : Nat} {t : Tr} {v : Int} {W W' : World} (h : LoBlk b N t v W) (hg : W.grownBy W' none) : LoBlk b N t v W' :=
  ⟨h.1.grown hg, h.2.1.grown hg, h.2.2.grown hg⟩
theorem LoBlk.put {b N : Nat} {t : Tr} {v : Int} {W : World} (h : LoBlk b N t v W) (u : Int) : LoBlk b N t u (W.setCell ⟨b + 1, 0, none⟩ (.int .i64 u)) :=
  ⟨h.1.other (by simp) _, h.2.1.set 0 _, h.2.2.other (by simp) _⟩
theorem LoBlk.own {β : Type} (b N : Nat) (t : Tr) (f : β → Int) : Own (fun s W => LoBlk b N t (f s) W) :=
  Own.and (blk_own _ _ _) (Own.and (blk_own _ _ fun s => #[.int .i64 (f s)]) (blk_own _ _ _))
theorem LoBlk.made (N : Nat) (t : Tr) (v : Int) (w : World) : LoBlk w.heap.size N t v (((w.alloc (.cells #[.iface (nodeT t) (nodeP t)] 131)).alloc (.cells #[.int .i64 v] 3)).alloc (.cells #[.int .i64 N] 3)) := by
  have h0 := BlkAt.new w #[.iface (nodeT t) (nodeP t)] 131
  generalize hw0 : w.alloc (.cells #[.iface (nodeT t) (nodeP t)] 131) = w0 at *
  have e0 : w0.heap.size = w.heap.size + 1 := by rw [← hw0]; simp
  have h1 := BlkAt.new w0 #[.int .i64 v] 3
  have g1 : w0.grownBy (w0.alloc (.cells #[.int .i64 v] 3)) none := World.grownBy_alloc _ _ none
  generalize hw1 : w0.alloc (.cells #[.int .i64 v] 3) = w1 at *
  have e1 : w1.heap.size = w.heap.size + 1 + 1 := by rw [← hw1]; simp [e0]
  have h2 := BlkAt.new w1 #[.int .i64 N] 3
  have g2 : w1.grownBy (w1.alloc (.cells #[.int .i64 N] 3)) none := World.grownBy_alloc _ _ none
  rw [e0] at h1
  rw [e1] at h2
  exact ⟨h0.grown (grownBy_trans g1 g2), h1.grown g2, h2⟩

set_option maxRecDepth 100000 in
set_option maxHeartbeats 4000000 in
theorem least_yes (N : Nat) (hN : 1 ≤ N ∧ N ≤ 6) (s : ByteArray) (w : World) {t : Tr} (ho : fOf (bl s) = some t) :
    Calls Tryz.prog 151 #[.int .i64 N, .string s] w fun e w' => e = .returned (.int .i64 (lowU N t (cub N))) ∧ w.grownBy w' none := by
  have cc := chain_yes s w (inB_t (n := N) (by omega)) ho
  clear ho
  refine (callsIn_wide (n := 5)).1 ?_
  refine callsIn_of_wp_marks Tryz.func151 rfl trivial ?_ rfl
  simp only [Tryz.ntmps151, List.size_toArray, List.length_cons, List.length_nil, Nat.reduceAdd, Nat.reduceSub, Array.replicate_succ, Array.replicate_zero, List.push_toArray, List.append_toArray, List.nil_append, List.cons_append]
  gi_wp2_with (refine ⟨trivial, ?_⟩; gi_at_call 163; refine (callsIn_wide.2 cc).mono ?_; rintro e w1 ⟨rfl, g1⟩)
  clear cc
  gi_wp2_with (refine ⟨trivial, ?_⟩; gi_at_call 186; refine (settings_any _ _ trivial rfl _ _).mono ?_; rintro e w' ⟨rfl, rfl⟩)
  have hM := LoBlk.made N t N w1
  have hg := grownBy_trans g1 (grownBy_trans (World.grownBy_alloc w1 (.cells #[.iface (nodeT t) (nodeP t)] 131) none) (grownBy_trans (World.grownBy_alloc _ (.cells #[.int .i64 N] 3) none) (World.grownBy_alloc _ (.cells #[.int .i64 N] 3) none)))
  obtain ⟨W0, hW0⟩ : ∃ W0, (((w1.alloc (.cells #[.iface (nodeT t) (nodeP t)] 131)).alloc (.cells #[.int .i64 N] 3)).alloc (.cells #[.int .i64 N] 3)) = W0 := ⟨_, rfl⟩
  rw [hW0] at hM hg ⊢
  have hsz : W0.heap.size = w1.heap.size + 1 + 1 + 1 := by rw [← hW0]; simp
  clear hW0
  have hw1 := g1.size
  have hB0 : Below w.heap.size w W0 := below_of hg
  clear hg
  refine wpIn_rangeFunc_ownH rfl (show 1 ≤ 5 from by decide) (gf := 206) (lb := #[.pointer (some ⟨w1.heap.size + 1 + 1, 0, none⟩)]) rfl trivial (enters_of Tryz.func206 (by kernel_rfl) rfl)
    (settings_stops Fence.wide (5 - 1) trivial rfl (by decide) (w1.heap.size + 1 + 1) N hN W0 (by omega) (hM.2.2.cell rfl)) kpC_t (kpC_b (by omega)) (Below.refl _ _) (fun _ => rfl)
    (fun pre W => LoBlk w1.heap.size N t (lowL N t pre) W ∧ Below w.heap.size w W)
    (fun _ _ _ => False)
    (OwnFrom.and (Own.from (LoBlk.own _ _ _ (fun pre => lowL N t pre)) _) (ownFrom_below (Nat.le_refl _) (by omega)))
    (fun _ _ _ _ _ hs _ _ => hs)
    ⟨hM, hB0⟩
    (fun x a' W => ∃ b, w1.heap.size + 1 + 1 < b ∧ BlkAt W b (set4 N x) 164 ∧ a' = { tmps := #[.int .i64 N, .string s, undef, undef, .int .i64 0, .pointer (some ⟨w1.heap.size, 0, none⟩), .bool true, .pointer (some ⟨w1.heap.size + 1, 0, none⟩), .pointer (some ⟨b, 0, none⟩), .tuple #[.iface (nodeT t) (nodeP t), .bool true], .int .i64 N, .string s, .tuple #[.iface (nodeT t) (nodeP t), .bool true], .iface (nodeT t) (nodeP t), .bool true, .bool true, .bool false, .int .i64 N, .int .i64 N, .func (.func 206) #[] #[.pointer (some ⟨w1.heap.size + 1 + 1, 0, none⟩)], .agg #[.int .i64 N, .int .i64 (tA N x), .int .i64 (tB N x), .int .i64 (tC N x)], undef, undef, undef, undef, undef, undef], defers := [] })
    (fun x a' => Own.from (fun s A B row hs hg hr => by obtain ⟨b, h1, h2, h3⟩ := hs; exact ⟨b, h1, blk_own (β := Unit) b _ (fun _ => set4 N x) () A B row h2 hg hr, h3⟩) _) ?assign ?body ?done ?stop
  case assign =>
    rintro l pre x W K ⟨hA, hB⟩ hK
    simp only [encK]
    gi_wp2
    exact hK _ _ ((KeepsOthers.alloc _ _).from _) (KpC.grown hA.2.2.lt (World.grownBy_alloc _ _ none)) ⟨hA.grown (World.grownBy_alloc _ _ none), hB.alloc hB.size _⟩ ⟨W.heap.size, hA.2.2.lt, BlkAt.new W _ _, rfl⟩
  case body =>
    rintro l pre x a' W hl ⟨r, hr⟩ ⟨hA, hB⟩ ⟨b, hb, hbx, rfl⟩ hlt
    have n0 : W.cell? ⟨w1.heap.size + 1, 0, none⟩ = some (.int .i64 (lowL N t pre)) := hA.2.1.cell rfl
    have t0 : W.cell? ⟨w1.heap.size, 0, none⟩ = some (.iface (nodeT t) (nodeP t)) := hA.1.cell rfl
    have x0 : W.cell? ⟨b, 0, none⟩ = some (.int .i64 N) := hbx.cell rfl
    have x1 : W.cell? ⟨b, 1, none⟩ = some (.int .i64 (tA N x)) := hbx.cell rfl
    have x2 : W.cell? ⟨b, 2, none⟩ = some (.int .i64 (tB N x)) := hbx.cell rfl
    have x3 : W.cell? ⟨b, 3, none⟩ = some (.int .i64 (tC N x)) := hbx.cell rfl
    have cv : ∀ w : World, Calls Tryz.prog 160 #[.agg #[.int .i64 N, .int .i64 (tA N x), .int .i64 (tB N x), .int .i64 (tC N x)], .iface (nodeT t) (nodeP t)] w fun e w' => e = .returned (.int .i64 (atK N t x)) ∧ w.grownBy w' none := vt_all (tri_ok hN x) t
    have hd : 1 ≤ 5 - 1 - 1 := by decide
    have hmx : Tryz.prog.follows .mixedOrders = true := by kernel_rfl
    by_cases hv : lowL N t pre ≤ atK N t x
    · gi_wp2
      gi_region_with_o (refine ⟨trivial, ?_⟩; gi_at_call 160; refine (CallsIn.inRound l (callsIn_wide.2 (cv _))).mono ?_; rintro e w' ⟨rfl, gx⟩; have n0' := cell_grown (w1 := W.drew) n0 gx; have z0' := (hA.grown (grownBy_trans (grownBy_drew (grownBy_refl W none)) gx)).2.1.frozen 0)
      all_goals
        have g := grownBy_trans (grownBy_drew (grownBy_refl W none)) gx
        have hA' := hA.grown g
        gi_wp2
        exact ⟨((KeepsOthers.of_grownBy g (by simp)).trans (KeepsOthers.setCell _ _ _)).from _, kpC_t (KpC.grown hA.2.2.lt g) (KpC.set _ (by simp) _), by rw [lowL_s1 hv]; exact hA'.put _, hB.trans (((below_of g).mono hB.size).setCell (by simp <;> omega) _)⟩
    · gi_wp2
      gi_region_with_o (refine ⟨trivial, ?_⟩; gi_at_call 160; refine (CallsIn.inRound l (callsIn_wide.2 (cv _))).mono ?_; rintro e w' ⟨rfl, gx⟩; have n0' := cell_grown (w1 := W.drew) n0 gx; have z0' := (hA.grown (grownBy_trans (grownBy_drew (grownBy_refl W none)) gx)).2.1.frozen 0)
      all_goals
        have g := grownBy_trans (grownBy_drew (grownBy_refl W none)) gx
        have hA' := hA.grown g
        gi_wp2
        exact ⟨((KeepsOthers.of_grownBy g (by simp)).trans (KeepsOthers.setCell _ _ _)).from _, kpC_t (KpC.grown hA.2.2.lt g) (KpC.set _ (by simp) _), by rw [lowL_s2 (by omega)]; exact hA'.put _, hB.trans (((below_of g).mono hB.size).setCell (by simp <;> omega) _)⟩
  case done =>
    rintro D ys W hD rfl ⟨hA, hB⟩ hK
    rw [lowL_range] at hA
    have n0 : W.cell? ⟨w1.heap.size + 1, 0, none⟩ = some (.int .i64 (lowU N t (cub N))) := hA.2.1.cell rfl
    gi_wp2
    refine ⟨by simp, .inl ⟨_, _, rfl, run_takeDeferred hK, ?_⟩⟩
    exact ⟨_, results_tmp rfl _ _ _, rfl, grown_of (hB.trans (belowK_b (w := w) (Nat.le_refl _) W D _ _ (by omega) hK rfl rfl))⟩
  case stop =>
    rintro D c pre W _ _ h _
    exact h.elim

theorem least_any (n : Int) (s : ByteArray) (w : World) :
    Calls Tryz.prog 151 #[.int .i64 n, .string s] w fun e w' => e = .returned (.int .i64 (leastI n (bl s))) ∧ w.grownBy w' none := by
  cases hi : inB n 1 6
  · rw [leastI_o hi]; exact least_no n s w (.inl hi)
  · cases ho : fOf (bl s) with
    | none => rw [leastI_n ho]; exact least_no n s w (.inr ho)
    | some t =>
      have hN := inB_of hi
      obtain ⟨N, rfl⟩ : ∃ N : Nat, n = N := ⟨n.toNat, by omega⟩
      rw [leastI_t ho hi]
      exact least_yes N (by omega) s w ho

end Go.Proofs.YtlnffpofbfigaaaGreatDoor

/-
  impl.AlwaysOk, impl.AgainstOf, impl.AxiomAt. No condition.
-/
namespace Go.Proofs.YtlnffpofbfigaaaGreatDoor
open Go.RowKit

theorem results_tmp4 {fn : Func} {t u v x : Tmp} (h : fn.results = #[.tmp t, .tmp u, .tmp v, .tmp x]) (tmps : Array Value) (P : Program) (w : World) :
    (results fn tmps).run P w = .ok (.tuple #[tmps.getD t undef, tmps.getD u undef, tmps.getD v undef, tmps.getD x undef]) w := by
  simp [results, h]
theorem against_no {N : Nat} (hN : 1 ≤ N ∧ N ≤ 6) {t : Tr} (h : agN N t = none) (w : World) :
    Calls Tryz.prog 185 #[.int .i64 N, .iface (nodeT t) (nodeP t)] w fun e w' => e = .returned (.tuple #[.agg #[.int .i64 0, .int .i64 0, .int .i64 0, .int .i64 0], .bool false]) ∧ w.grownBy w' none := by
  have := against_in N hN t w
  rw [agArr_n h, h] at this
  exact this
theorem against_yes {N : Nat} (hN : 1 ≤ N ∧ N ≤ 6) {t : Tr} {k : Nat} (h : agN N t = some k) (w : World) :
    Calls Tryz.prog 185 #[.int .i64 N, .iface (nodeT t) (nodeP t)] w fun e w' => e = .returned (.tuple #[.agg #[.int .i64 N, .int .i64 (tA N k), .int .i64 (tB N k), .int .i64 (tC N k)], .bool true]) ∧ w.grownBy w' none := by
  have := against_in N hN t w
  rw [agArr_s h, h] at this
  exact this

theorem always_no (n : Int) (s : ByteArray) (w : World) (h : inB n 1 6 = false ∨ fOf (bl s) = none) :
    Calls Tryz.prog 150 #[.int .i64 n, .string s] w fun e w' => e = .returned (.bool false) ∧ w.grownBy w' none := by
  have cc := chain_no n s w h
  clear h
  go_enter Tryz.func150, Tryz.ntmps150
  go_wp2_with fail
  refine cc.mono ?_
  rintro e w1 ⟨v, hv, rfl, g1⟩
  clear cc
  go_wp2_with fail
  go_ret
  exact ⟨rfl, g1⟩

theorem always_yes (N : Nat) (hN : 1 ≤ N ∧ N ≤ 6) (s : ByteArray) (w : World) {t : Tr} (ho : fOf (bl s) = some t) :
    Calls Tryz.prog 150 #[.int .i64 N, .string s] w fun e w' => e = .returned (.bool (alwT N t)) ∧ w.grownBy w' none := by
  have cc := chain_yes s w (inB_t (n := N) (by omega)) ho
  clear ho
  have ha := agN_alw N t
  cases hag : agN N t with
  | none =>
    have c2 := against_no hN hag
    rw [hag] at ha
    rw [← ha]
    clear ha hag
    go_enter Tryz.func150, Tryz.ntmps150
    go_wp2_with fail
    refine cc.mono ?_
    rintro e w1 ⟨rfl, g1⟩
    clear cc
    go_wp2_with fail
    refine (c2 _).mono ?_
    rintro e w2 ⟨rfl, g2⟩
    clear c2
    go_wp2_with fail
    go_ret
    exact ⟨rfl, grownBy_trans g1 (grownBy_trans g2 (World.grownBy_alloc _ _ none))⟩
  | some k =>
    have c2 := against_yes hN hag
    rw [hag] at ha
    rw [← ha]
    clear ha hag
    go_enter Tryz.func150, Tryz.ntmps150
    go_wp2_with fail
    refine cc.mono ?_
    rintro e w1 ⟨rfl, g1⟩
    clear cc
    go_wp2_with fail
    refine (c2 _).mono ?_
    rintro e w2 ⟨rfl, g2⟩
    clear c2
    go_wp2_with fail
    go_ret
    exact ⟨rfl, grownBy_trans g1 (grownBy_trans g2 (World.grownBy_alloc _ _ none))⟩

theorem always_any (n : Int) (s : ByteArray) (w : World) :
    Calls Tryz.prog 150 #[.int .i64 n, .string s] w fun e w' => e = .returned (.bool (alwB n (bl s))) ∧ w.grownBy w' none := by
  cases hi : inB n 1 6
  · rw [alwB_o hi]; exact always_no n s w (.inl hi)
  · cases ho : fOf (bl s) with
    | none => rw [alwB_n ho]; exact always_no n s w (.inr ho)
    | some t =>
      obtain ⟨N, rfl, hN⟩ := nat_of hi
      rw [alwB_t ho hi]
      exact always_yes N hN s w ho

/-- What AgainstOf answers. -/
def agV (n : Int) (l : List UInt8) : Value :=
  match agI n l with
  | some k => .tuple #[.int .i64 (tA n.toNat k), .int .i64 (tB n.toNat k), .int .i64 (tC n.toNat k), .bool true]
  | none => .tuple #[.int .i64 (-1), .int .i64 (-1), .int .i64 (-1), .bool false]
theorem agV_n {n : Int} {l : List UInt8} (h : agI n l = none) : agV n l = .tuple #[.int .i64 (-1), .int .i64 (-1), .int .i64 (-1), .bool false] := by unfold agV; rw [h]
theorem agV_s {N k : Nat} {l : List UInt8} (h : agI N l = some k) : agV N l = .tuple #[.int .i64 (tA N k), .int .i64 (tB N k), .int .i64 (tC N k), .bool true] := by unfold agV; rw [h]; rfl

theorem agof_no (n : Int) (s : ByteArray) (w : World) (h : inB n 1 6 = false ∨ fOf (bl s) = none) :
    Calls Tryz.prog 152 #[.int .i64 n, .string s] w fun e w' => e = .returned (.tuple #[.int .i64 (-1), .int .i64 (-1), .int .i64 (-1), .bool false]) ∧ w.grownBy w' none := by
  have cc := chain_no n s w h
  clear h
  go_enter Tryz.func152, Tryz.ntmps152
  go_wp2_with fail
  refine cc.mono ?_
  rintro e w1 ⟨v, hv, rfl, g1⟩
  clear cc
  go_wp2_with fail
  refine bodyPost_ret (results_tmp4 rfl _ _ _) rfl ?_
  exact ⟨rfl, g1⟩

theorem agof_none (N : Nat) (hN : 1 ≤ N ∧ N ≤ 6) (s : ByteArray) (w : World) {t : Tr} (ho : fOf (bl s) = some t) (hag : agN N t = none) :
    Calls Tryz.prog 152 #[.int .i64 N, .string s] w fun e w' => e = .returned (.tuple #[.int .i64 (-1), .int .i64 (-1), .int .i64 (-1), .bool false]) ∧ w.grownBy w' none := by
  have cc := chain_yes s w (inB_t (n := N) (by omega)) ho
  clear ho
  have c2 := against_no hN hag
  clear hag
  go_enter Tryz.func152, Tryz.ntmps152
  go_wp2_with fail
  refine cc.mono ?_
  rintro e w1 ⟨rfl, g1⟩
  clear cc
  go_wp2_with fail
  refine (c2 _).mono ?_
  rintro e w2 ⟨rfl, g2⟩
  clear c2
  go_wp2_with fail
  refine bodyPost_ret (results_tmp4 rfl _ _ _) rfl ?_
  exact ⟨rfl, grownBy_trans g1 (grownBy_trans g2 (World.grownBy_alloc _ _ none))⟩

theorem agof_some (N : Nat) (hN : 1 ≤ N ∧ N ≤ 6) (s : ByteArray) (w : World) {t : Tr} (ho : fOf (bl s) = some t) {k : Nat} (hag : agN N t = some k) :
    Calls Tryz.prog 152 #[.int .i64 N, .string s] w fun e w' => e = .returned (.tuple #[.int .i64 (tA N k), .int .i64 (tB N k), .int .i64 (tC N k), .bool true]) ∧ w.grownBy w' none := by
  have cc := chain_yes s w (inB_t (n := N) (by omega)) ho
  clear ho
  have c2 := against_yes hN hag
  clear hag
  go_enter Tryz.func152, Tryz.ntmps152
  go_wp2_with fail
  refine cc.mono ?_
  rintro e w1 ⟨rfl, g1⟩
  clear cc
  go_wp2_with fail
  refine (c2 _).mono ?_
  rintro e w2 ⟨rfl, g2⟩
  clear c2
  have hb := BlkAt.new w2 #[.int .i64 N, .int .i64 (tA N k), .int .i64 (tB N k), .int .i64 (tC N k)] 164
  have b0 : (w2.alloc (.cells #[.int .i64 N, .int .i64 (tA N k), .int .i64 (tB N k), .int .i64 (tC N k)] 164)).cell? ⟨w2.heap.size, 1, none⟩ = some (.int .i64 (tA N k)) := hb.cell rfl
  have b1 : (w2.alloc (.cells #[.int .i64 N, .int .i64 (tA N k), .int .i64 (tB N k), .int .i64 (tC N k)] 164)).cell? ⟨w2.heap.size, 2, none⟩ = some (.int .i64 (tB N k)) := hb.cell rfl
  have b2 : (w2.alloc (.cells #[.int .i64 N, .int .i64 (tA N k), .int .i64 (tB N k), .int .i64 (tC N k)] 164)).cell? ⟨w2.heap.size, 3, none⟩ = some (.int .i64 (tC N k)) := hb.cell rfl
  go_wp2_with fail
  go_quiet (fail)
  go_wp2_with fail
  refine bodyPost_ret (results_tmp4 rfl _ _ _) rfl ?_
  exact ⟨rfl, grownBy_drewN (grownBy_trans g1 (grownBy_trans g2 (World.grownBy_alloc _ _ none))) _⟩

theorem agof_any (n : Int) (s : ByteArray) (w : World) :
    Calls Tryz.prog 152 #[.int .i64 n, .string s] w fun e w' => e = .returned (agV n (bl s)) ∧ w.grownBy w' none := by
  cases hi : inB n 1 6
  · rw [agV_n (agI_o hi)]; exact agof_no n s w (.inl hi)
  · cases ho : fOf (bl s) with
    | none => rw [agV_n (agI_n ho)]; exact agof_no n s w (.inr ho)
    | some t =>
      obtain ⟨N, rfl, hN⟩ := nat_of hi
      cases hag : agN N t with
      | none => rw [agV_n (by rw [agI_t ho hi]; exact hag)]; exact agof_none N hN s w ho hag
      | some k => rw [agV_s (by rw [agI_t ho hi]; exact hag)]; exact agof_some N hN s w ho hag

end Go.Proofs.YtlnffpofbfigaaaGreatDoor

/-
  impl.ChainsFor: the numbers of steps of the chains in which a formula always holds. No condition.
-/
namespace Go.Proofs.YtlnffpofbfigaaaGreatDoor
open Go.RowKit

def chTo (l : List UInt8) : Nat → List Int
  | 0 => []
  | j + 1 => if alwB ((j + 1 : Nat) : Int) l = true then chTo l j ++ [((j + 1 : Nat) : Int)] else chTo l j
theorem chTo_hit {l : List UInt8} {j : Nat} (h : alwB ((j + 1 : Nat) : Int) l = true) : chTo l (j + 1) = chTo l j ++ [((j + 1 : Nat) : Int)] := if_pos h
theorem chTo_miss {l : List UInt8} {j : Nat} (h : alwB ((j + 1 : Nat) : Int) l = false) : chTo l (j + 1) = chTo l j := if_neg (by rw [h]; decide)
theorem chTo_len (l : List UInt8) : ∀ j, (chTo l j).length ≤ j := by
  intro j
  induction j with
  | zero => exact Nat.le_refl _
  | succ j ih =>
    cases h : alwB ((j + 1 : Nat) : Int) l
    · rw [chTo_miss h]; omega
    · rw [chTo_hit h, List.length_append]; simp; omega
theorem chTo_eq (l : List UInt8) : ∀ j, chTo l j = ((List.range j).map fun i => ((i + 1 : Nat) : Int)).filter fun n => alwB n l := by
  intro j
  induction j with
  | zero => rfl
  | succ j ih =>
    rw [List.range_succ, List.map_append, List.filter_append, ← ih]
    cases h : alwB ((j + 1 : Nat) : Int) l
    · rw [chTo_miss h]
      show _ = _ ++ List.filter _ [((j + 1 : Nat) : Int)]
      rw [List.filter_cons_of_neg (by rw [h]; decide)]
      simp
    · rw [chTo_hit h]
      show _ = _ ++ List.filter _ [((j + 1 : Nat) : Int)]
      rw [List.filter_cons_of_pos (p := fun n => alwB n l) h]
      rfl
theorem chTo_6 (l : List UInt8) : chTo l 6 = chI l := chTo_eq l 6
theorem chI_n {l : List UInt8} (h : fOf l = none) : chI l = [] := by
  unfold chI
  rw [List.filter_eq_nil_iff]
  intro a _
  rw [alwB_n h]
  decide

def ChRel (l : List UInt8) (w : World) (v i : Value) (wr : World) : Prop := ∃ j : Nat, j ≤ 6 ∧ i = .int .i64 ((j : Int) + 1) ∧ RowRel (chTo l j) w.heap.size w v wr

theorem chains_no (s : ByteArray) (w : World) (h : fOf (bl s) = none) :
    Calls Tryz.prog 154 #[.string s] w (IntsPost (chI (bl s)) w) := by
  have ct := tree_no s w h
  have hp := Lib.hid (chI_n h)
  clear h
  go_enter Tryz.func154, Tryz.ntmps154
  go_wp2_with fail
  refine ct.mono ?_
  rintro e w1 ⟨v, hv, rfl, g1⟩
  clear ct
  go_wp2_with fail
  go_ret
  rw [hp.out]
  exact ⟨none, 0, rfl, OwnI.nil _ _, g1⟩

set_option maxRecDepth 100000 in
set_option maxHeartbeats 1600000 in
theorem chains_yes (s : ByteArray) (w : World) {t : Tr} (h : fOf (bl s) = some t) :
    Calls Tryz.prog 154 #[.string s] w (IntsPost (chI (bl s)) w) := by
  obtain ⟨i0, hi, hz0, hz1, hz2⟩ := info_parts infoInt
  have ct := tree_yes s w h
  have H := Lib.hid h
  clear h
  rw [← chTo_6]
  go_enter Tryz.func154, Tryz.ntmps154
  go_wp2_with fail
  refine ct.mono ?_
  rintro e w1 ⟨rfl, g1⟩
  clear ct
  go_wp2_with fail
  go_loopw [5, 6] (fun v i wr => ChRel (bl s) w v i wr) (fun _ i _ => (7 - intOf i).toNat)
  case atStart => exact ⟨0, by omega, rfl, none, 0, rfl, OwnI.nil _ _, g1⟩
  case round =>
    obtain ⟨j, hj, rfl, a, cap, rfl, hown, hgr⟩ := hrel
    have hlen := chTo_len (bl s) j
    by_cases hlt : j < 6
    · have hN : 1 ≤ j + 1 ∧ j + 1 ≤ 6 := by omega
      have hb : alwB ((j + 1 : Nat) : Int) (bl s) = (agN (j + 1) t).isNone := by rw [alwB_t H.out (inB_t (by omega)), agN_alw]
      cases hag : agN (j + 1) t with
      | none =>
        rw [hag] at hb
        have e := Lib.hid (chTo_hit (l := bl s) (j := j) hb)
        have c2 : ∀ w : World, Calls Tryz.prog 185 #[.int .i64 ((j : Int) + 1), .iface (nodeT t) (nodeP t)] w fun e w' => e = .returned (.tuple #[.agg #[.int .i64 0, .int .i64 0, .int .i64 0, .int .i64 0], .bool false]) ∧ w.grownBy w' none := against_no hN hag
        clear hb hag
        go_wp2_with fail
        refine (c2 _).mono ?_
        rintro e w2 ⟨rfl, hg2⟩
        replace hown := hown.kept hg2
        replace hgr := grownBy_trans hgr hg2
        clear c2
        go_wp2_with (at_builtin; refine wpList_append_own _ rfl _ _ 102 rfl w.heap.size 3 i0 (.int .i64 0) 1 8 Tryz.underlying102 hi hz0 hz1 hz2 rfl (by decide) _ _ _ rfl (World.ownsRow.alloc (World.ownsRow.alloc hown _) _) ⟨w2.heap.size + 1, 0, none⟩ 1 1 [.int .i64 ((j : Int) + 1)] rfl rfl ?c1 ?c2 ?c3 ?c4 ?c5 ?_)
        case c1 =>
          intro j u hj
          match j, hj with
          | 0, hj => simp at hj; subst hj; simp [Addr.add]
        case c2 => intro u hu; simp at hu; subst hu; rfl
        case c3 => unfold maxLen; omega
        case c4 => omega
        case c5 => have := hgr.size; simp; omega
        intro v' w3 hown' hgrow _
        have R := row_more hown hgr hown' (grow_box (grow_box hgrow))
        rw [show ((j : Int) + 1) = ((j + 1 : Nat) : Int) from rfl, ← e.out] at R
        clear hown hown' hgrow
        go_wp2
        go_roundw
        case rel => exact ⟨j + 1, by omega, by go_num, R⟩
        case measure => simp [intOf]; omega
      | some k =>
        rw [hag] at hb
        have e := Lib.hid (chTo_miss (l := bl s) (j := j) hb)
        have c2 : ∀ w : World, Calls Tryz.prog 185 #[.int .i64 ((j : Int) + 1), .iface (nodeT t) (nodeP t)] w fun e w' => e = .returned (.tuple #[.agg #[.int .i64 ((j : Int) + 1), .int .i64 (tA (j + 1) k), .int .i64 (tB (j + 1) k), .int .i64 (tC (j + 1) k)], .bool true]) ∧ w.grownBy w' none := against_yes hN hag
        clear hb hag
        go_wp2_with fail
        refine (c2 _).mono ?_
        rintro e w2 ⟨rfl, hg2⟩
        replace hown := hown.kept (grownBy_trans hg2 (World.grownBy_alloc _ (.cells #[.int .i64 ((j : Int) + 1), .int .i64 (tA (j + 1) k), .int .i64 (tB (j + 1) k), .int .i64 (tC (j + 1) k)] 164) none))
        replace hgr := grownBy_trans hgr (grownBy_trans hg2 (World.grownBy_alloc _ (.cells #[.int .i64 ((j : Int) + 1), .int .i64 (tA (j + 1) k), .int .i64 (tB (j + 1) k), .int .i64 (tC (j + 1) k)] 164) none))
        clear c2
        go_wp2_with fail
        go_roundw
        case rel => exact ⟨j + 1, by omega, by go_num, a, cap, by rw [e.out], by rw [e.out]; exact hown, hgr⟩
        case measure => simp [intOf]; omega
    · obtain rfl : j = 6 := by omega
      go_wp2
      go_ret
      exact ⟨a, cap, rfl, hown, hgr⟩

theorem chains_any (s : ByteArray) (w : World) :
    Calls Tryz.prog 154 #[.string s] w (IntsPost (chI (bl s)) w) := by
  cases h : fOf (bl s) with
  | none => exact chains_no s w h
  | some t => exact chains_yes s w h

end Go.Proofs.YtlnffpofbfigaaaGreatDoor

/-
  impl's FarOf, AlikeOf, RowOk, RowFar, RowAlike: the generic functions of the library and of the program, and what they are handed: function literals that read the chain's steps. No condition.
-/
namespace Go.Proofs.YtlnffpofbfigaaaGreatDoor
open Go.RowKit

theorem far0_any (n a b : Int) (w : World) :
    Calls Tryz.prog 189 #[.int .i64 n, .int .i64 a, .int .i64 b] w fun e w' => e = .returned (.int .i64 (farW n a b)) ∧ w = w' := by
  cases h1 : vokB n a
  · have h : twoB n a b = false := by unfold twoB; rw [h1]; rfl
    rw [farW_f h]
    clear h
    go_enter Tryz.func189, Tryz.ntmps189
    go_wp2_with (go_at_call 58; refine (vok_any _ _ _).mono ?_; rintro e w' ⟨rfl, rfl⟩)
    go_ret
    exact ⟨rfl, rfl⟩
  · cases h2 : vokB n b
    · have h : twoB n a b = false := by unfold twoB; rw [h1, h2]; rfl
      rw [farW_f h]
      clear h
      go_enter Tryz.func189, Tryz.ntmps189
      go_wp2_with (go_at_call 58; refine (vok_any _ _ _).mono ?_; rintro e w' ⟨rfl, rfl⟩)
      go_ret
      exact ⟨rfl, rfl⟩
    · rw [farW_t (twoB_mk h1 h2)]
      have k1 := vokB_of h1
      have k2 := vokB_of h2
      unfold gap
      by_cases hc : a ≤ b
      · rw [if_pos hc]
        go_enter Tryz.func189, Tryz.ntmps189
        go_wp2_with (go_at_call 58; refine (vok_any _ _ _).mono ?_; rintro e w' ⟨rfl, rfl⟩)
        all_goals
          go_ret
          exact ⟨by first | rfl | (refine congrArg (fun z : Int => Ending.returned (Value.int .i64 z)) ?_; omega), rfl⟩
      · rw [if_neg hc]
        go_enter Tryz.func189, Tryz.ntmps189
        go_wp2_with (go_at_call 58; refine (vok_any _ _ _).mono ?_; rintro e w' ⟨rfl, rfl⟩)
        all_goals
          go_ret
          exact ⟨by first | rfl | (refine congrArg (fun z : Int => Ending.returned (Value.int .i64 z)) ?_; omega), rfl⟩
end Go.Proofs.YtlnffpofbfigaaaGreatDoor

/-
  impl.MovesOf: a range over what impl.settings yields, in which a function literal keeps how far it is at most. No condition.
-/
namespace Go.Proofs.YtlnffpofbfigaaaGreatDoor
open Go.RowKit Go.Shelf
attribute [local go_sem] Oper.semAt_some

/-! Plain numbers: moved up from a place is moved down from the place a whole plane further on. -/
def pln (n : Nat) : Nat := (n + 1) * (n + 1)
theorem cub_pln (n : Nat) : cub n = n * pln n + pln n := by
  unfold cub pln
  rw [show (n + 1) * (n + 1) * (n + 1) = (n + 1) * ((n + 1) * (n + 1)) from Nat.mul_assoc _ _ _, Nat.add_mul n 1, Nat.one_mul]
theorem pln_A (n k : Nat) : (k + pln n) / (n + 1) / (n + 1) = k / (n + 1) / (n + 1) + 1 := by
  unfold pln
  rw [Nat.add_mul_div_right _ _ (by omega), Nat.add_div_right _ (by omega)]
theorem pln_B (n k : Nat) : tB n (k + pln n) = tB n k := by
  unfold tB pln
  rw [Nat.add_mul_div_right _ _ (by omega), Nat.add_mod_right]
theorem pln_C (n k : Nat) : tC n (k + pln n) = tC n k := by
  unfold tC pln
  rw [Nat.add_mul_mod_self_right]
theorem A_low {n k : Nat} (h : k < n * pln n) : tA n k < n := by
  rw [tA_eq (by rw [cub_pln]; omega), Nat.div_div_eq_div_mul]
  exact (Nat.div_lt_iff_lt_mul (show 0 < (n + 1) * (n + 1) from Nat.mul_pos (by omega) (by omega))).2 h
theorem A_top {n k : Nat} (h : n * pln n ≤ k) (hk : k < cub n) : tA n k = n := by
  have h1 := tA_le n k
  have h2 : n ≤ tA n k := by
    rw [tA_eq hk, Nat.div_div_eq_div_mul]
    exact (Nat.le_div_iff_mul_le (show 0 < (n + 1) * (n + 1) from Nat.mul_pos (by omega) (by omega))).2 h
  omega

/-- What is farthest of what was and what comes. -/
def farM (s g : Int) : Int := if g ≤ s then s else g
/-- How far a place is from the one a whole plane further on. -/
def upG (n : Nat) (t : Tr) (k : Nat) : Int := gap (atK n t k) (t.val n ((tA n k : Int) + 1) (tB n k) (tC n k))
def upL (n : Nat) (t : Tr) (pre : List Nat) : Int := pre.foldl (fun s k => if tA n k = n then s else farM s (upG n t k)) 0
theorem upL_s0 {n : Nat} {t : Tr} {pre : List Nat} {x : Nat} (h : tA n x = n) : upL n t (pre ++ [x]) = upL n t pre := by
  unfold upL; rw [List.foldl_append]; exact if_pos h
theorem upL_s1 {n : Nat} {t : Tr} {pre : List Nat} {x : Nat} (h : ¬ tA n x = n) : upL n t (pre ++ [x]) = farM (upL n t pre) (upG n t x) := by
  unfold upL; rw [List.foldl_append]; exact if_neg h
theorem movU_low (n : Nat) (t : Tr) : ∀ k, k ≤ pln n → movU n t k = 0 := by
  intro k
  induction k with
  | zero => intro _; rfl
  | succ k ih =>
    intro hk
    show (if k / (n + 1) / (n + 1) = 0 then _ else _) = _
    rw [if_pos (by rw [Nat.div_div_eq_div_mul]; exact Nat.div_eq_of_lt hk)]
    exact ih (by omega)
theorem upL_range (n : Nat) (t : Tr) : ∀ k, k ≤ n * pln n → upL n t (List.range k) = movU n t (k + pln n) := by
  intro k
  induction k with
  | zero => intro _; rw [Nat.zero_add, movU_low n t _ (Nat.le_refl _)]; rfl
  | succ k ih =>
    intro hk
    have hA := A_low (n := n) (k := k) (by omega)
    have hc : k + pln n < cub n := by rw [cub_pln]; omega
    have e1 : tA n (k + pln n) = tA n k + 1 := by rw [tA_eq hc, pln_A, tA_eq (by omega)]
    rw [List.range_succ, upL_s1 (show ¬ tA n k = n by omega), ih (by omega), show k + 1 + pln n = (k + pln n) + 1 by omega]
    show _ = (if (k + pln n) / (n + 1) / (n + 1) = 0 then _ else _)
    rw [if_neg (show ¬ (k + pln n) / (n + 1) / (n + 1) = 0 by rw [pln_A]; exact Nat.succ_ne_zero _), e1, pln_B, pln_C]
    unfold farM upG atK
    rw [show (((tA n k + 1 : Nat) : Int)) = (tA n k : Int) + 1 by omega, show ((tA n k : Int) + 1 - 1) = (tA n k : Int) by omega, gap_sym (t.val n ((tA n k : Int) + 1) _ _)]
theorem upL_top (n : Nat) (t : Tr) : ∀ j, n * pln n + j ≤ cub n → upL n t (List.range (n * pln n + j)) = movU n t (cub n) := by
  intro j
  induction j with
  | zero => intro _; rw [Nat.add_zero, upL_range n t _ (Nat.le_refl _), ← cub_pln]
  | succ j ih =>
    intro hj
    rw [show n * pln n + (j + 1) = (n * pln n + j) + 1 by omega, List.range_succ, upL_s0 (A_top (by omega) (by omega))]
    exact ih (by omega)
theorem upL_all (n : Nat) (t : Tr) : upL n t (List.range (cub n)) = movU n t (cub n) := by
  have := upL_top n t (pln n) (by rw [← cub_pln]; exact Nat.le_refl _)
  rwa [← cub_pln] at this

/-! The function literal. -/
set_option maxHeartbeats 1000000 in
theorem keep_any (n m p q : Int) (F B : Nat) (w : World) (hF : w.cell? ⟨F, 0, none⟩ = some (.int .i64 m)) (hf : w.frozen? ⟨F, 0, none⟩ = false) (hB : w.cell? ⟨B, 0, none⟩ = some (.int .i64 n)) (ht : twoB n p q = true) :
    Calls Tryz.prog 188 #[.int .i64 p, .int .i64 q, .pointer (some ⟨F, 0, none⟩), .pointer (some ⟨B, 0, none⟩)] w fun e w' => (∃ v, e = .returned v) ∧ w' = w.drew.setCell ⟨F, 0, none⟩ (.int .i64 (farM m (gap p q))) := by
  have c1 := fun w => far0_any n p q w
  rw [farW_t ht] at c1
  clear ht
  generalize gap p q = g at *
  unfold farM
  have hmx : Tryz.prog.follows .mixedOrders = true := by kernel_rfl
  by_cases hc : g ≤ m
  · rw [if_pos hc]
    go_enter Tryz.func188, Tryz.ntmps188
    go_wp2_with fail
    go_region_with (go_at_call 189; refine (c1 _).mono ?_; rintro e w' ⟨rfl, rfl⟩)
    all_goals
      go_wp2_with fail
      go_end0
      exact ⟨⟨_, rfl⟩, rfl⟩
  · rw [if_neg hc]
    go_enter Tryz.func188, Tryz.ntmps188
    go_wp2_with fail
    go_region_with (go_at_call 189; refine (c1 _).mono ?_; rintro e w' ⟨rfl, rfl⟩)
    all_goals
      go_wp2_with fail
      go_end0
      exact ⟨⟨_, rfl⟩, rfl⟩

/-! A region that draws its order, in a round of a loop over a function. -/

/-- Behind it all goes on. -/
def Norm (Q : Exit → Act → World → Prop) : Exit → Act → World → Prop := fun e a w => e = .normal ∧ Q e a w

theorem op_round {P : Program} {ops : Array Oper} {Q : Exit → Act → World → Prop} (l n i : Nat) {K K' : Act → World → Prop} {a : Act} {w : World} (hK : ∀ a w, K a w → K' a w)
    (hnd : ∀ (i : Nat) (o : Oper) (c : _), ops[i]? = some o → o.op ≠ .defer c) (h : wpOp P ops (Norm Q) i K a w) : wpOpIn (Fence.wide.inRound l) n P ops Q i K' a w := by
  unfold wpOp at h
  unfold wpOpIn
  cases ho : ops[i]? with
  | none => simp only [ho] at h ⊢; exact hK _ _ h
  | some o =>
    simp only [ho] at h ⊢
    split
    · rename_i hw
      simp only [hw, if_true] at h
      rcases h with h | ⟨_, x, y, hl, _⟩
      · unfold Oper.wp at h
        unfold Oper.wpIn
        refine ⟨fun _ _ => trivial, ?_⟩
        rw [Oper.semAt_plain _ _ _ fun c => hnd i o c ho]
        generalize (execOp a.eval o).run P w = r at *
        cases r with
        | ok x w' =>
          cases x <;> simp only [Oper.upon, Oper.uponIn] at h ⊢
          case value v => exact hK _ _ h
          case skip => exact hK _ _ h
          case defer d => exact hK _ _ h
          case enter f args =>
            refine ⟨fun hd => (by cases hd), CallsIn.inRound l ((callsIn_wide.2 h).mono ?_)⟩
            intro e w2 he
            cases e with
            | returned v => exact hK _ _ he
            | panicked c => exact absurd he.1 (by simp)
            | outgrown => obtain ⟨_, _, hl, _⟩ := he; cases hl
          case row r args =>
            refine ⟨fun hd => (by cases hd), ?_⟩
            intro c cs _
            obtain ⟨v, w2, h1, h2⟩ := h c cs
            exact ⟨v, w2, hK _ _ h1, stepsIn_wide.2 h2⟩
        | halt x w' =>
          cases x <;> simp only [Oper.upon, Oper.uponIn] at h ⊢
          case panic v => exact absurd h.1 (by simp)
      · cases hl
    · rename_i hw
      simp only [hw] at h
      exact ⟨fun _ _ => trivial, hK _ _ h⟩

theorem any_round {P : Program} {ops : Array Oper} {Q : Exit → Act → World → Prop} {md : Region.Mode} {S : World → Prop} (l n : Nat) (hnd : ∀ (i : Nat) (o : Oper) (c : _), ops[i]? = some o → o.op ≠ .defer c) :
    ∀ (fuel : Nat) (listed : Array Bool) (a : Act) (w : World), wpAnyH P md ops (Norm Q) S fuel listed a w → wpAnyIn (Fence.wide.inRound l) n P md ops Q fuel listed a w := by
  intro fuel
  induction fuel with
  | zero => intro listed a w h; exact ⟨h.1, h.2.2⟩
  | succ fuel ih => intro listed a w h; exact ⟨fun h0 => (h.1 h0).2, fun i hi => op_round l n i (fun a' w' h' => ih _ a' w' h'.2) hnd (h.2 i hi)⟩

def noDefer (ops : Array Oper) : Bool := ops.toList.all fun o => match o.op with | .defer _ => false | _ => true
theorem noDefer_of {ops : Array Oper} (h : noDefer ops = true) (i : Nat) (o : Oper) (c : _) (ho : ops[i]? = some o) : o.op ≠ .defer c := fun e => by
  have := List.all_eq_true.1 h o (by rw [Array.mem_toList_iff]; exact Array.mem_of_getElem? ho)
  rw [e] at this
  cases this

theorem region_round {P : Program} {ops : Array Oper} {Q : Exit → Act → World → Prop} {S : World → Prop} {l n id : Nat} {a : Act} {w : World} (hm : P.follows .mixedOrders = true) (hnd : noDefer ops = true) (hS : S w.drew)
    (h : S w.drew → wpAnyH P .any ops (Norm Q) S ops.size (Array.replicate ops.size false) a w.drew) : (Code.region id ops true).wpIn (Fence.wide.inRound l) n P Q a w :=
  wpIn_region_any hm (any_round l n (noDefer_of hnd) _ _ _ _ (h hS))

theorem tak_on {P : Program} {ops : Array Oper} {Q : Exit → Act → World → Prop} {md : Region.Mode} {S : World → Prop} (i d : Nat) {oi : Oper} {v : Value} {fuel : Nat} {listed : Array Bool} {a : Act} {w : World} (hi : ops[i]? = some oi) (hd : oi.dst = some d) (hs : Region.noSelect ops = true) (hf : Region.free md ops listed i = true) (hr : (Region.ready md ops listed).contains i = true)
    (hw : Region.wanted oi (yielded ops a.tmps) = true) (hy : ∀ w, S w → (execOp a.eval oi).run P w = .ok (.value v) w) (hS : S w) (h : wpAnyH P md ops (Norm Q) S fuel (listed.setIfInBounds i true) (a.put (some d) v) w) : wpAnyH P md ops (Norm Q) S (fuel + 1) listed a w :=
  wpAnyH_take hi hs hf hr (fun _ _ _ h => by cases h.1) (Or.inl ⟨hw, hy⟩) hS (by rw [hd]; exact h)

/-! What lies before impl.MovesOf's loop: the steps at B, the rest from block b on. -/
def MvBlk (B b N : Nat) (t : Tr) (v : Int) (W : World) : Prop :=
  BlkAt W B #[.int .i64 N] 3 ∧ BlkAt W b #[.iface (nodeT t) (nodeP t)] 131 ∧ BlkAt W (b + 1) #[.int .i64 v] 3 ∧
  BlkAt W (b + 1 + 1) #[.func (.func 188) #[] #[.pointer (some ⟨b + 1, 0, none⟩), .pointer (some ⟨B, 0, none⟩)]] 201 ∧ BlkAt W (b + 1 + 1 + 1) #[.int .i64 N] 3

theorem MvBlk.grown {B b N : Nat} {t : Tr} {v : Int} {W W' : World} (h : MvBlk B b N t v W) (hg : W.grownBy W' none) : MvBlk B b N t v W' :=
  ⟨h.1.grown hg, h.2.1.grown hg, h.2.2.1.grown hg, h.2.2.2.1.grown hg, h.2.2.2.2.grown hg⟩
theorem MvBlk.put {B b N : Nat} {t : Tr} {v : Int} {W : World} (h : MvBlk B b N t v W) (hB : B < b) (u : Int) : MvBlk B b N t u (W.setCell ⟨b + 1, 0, none⟩ (.int .i64 u)) :=
  ⟨h.1.other (by simp <;> omega) _, h.2.1.other (by simp) _, h.2.2.1.set 0 _, h.2.2.2.1.other (by simp <;> omega) _, h.2.2.2.2.other (by simp <;> omega) _⟩
theorem MvBlk.own {β : Type} (B b N : Nat) (t : Tr) (f : β → Int) : Own (fun s W => MvBlk B b N t (f s) W) :=
  Own.and (blk_own _ _ _) (Own.and (blk_own _ _ _) (Own.and (blk_own _ _ fun s => #[.int .i64 (f s)]) (Own.and (blk_own _ _ _) (blk_own _ _ _))))
theorem MvBlk.made (B N : Nat) (t : Tr) (w : World) (hB : BlkAt w B #[.int .i64 N] 3) : MvBlk B w.heap.size N t 0 ((((w.alloc (.cells #[.iface (nodeT t) (nodeP t)] 131)).alloc (.cells #[.int .i64 0] 3)).alloc (.cells #[(.func (.func 188) #[] #[.pointer (some ⟨w.heap.size + 1, 0, none⟩), .pointer (some ⟨B, 0, none⟩)])] 201)).alloc (.cells #[.int .i64 N] 3)) := by
  have h0 := BlkAt.new w #[.iface (nodeT t) (nodeP t)] 131
  have kB := hB.alloc (.cells #[.iface (nodeT t) (nodeP t)] 131)
  generalize hw0 : w.alloc (.cells #[.iface (nodeT t) (nodeP t)] 131) = w0 at *
  have e0 : w0.heap.size = w.heap.size + 1 := by rw [← hw0]; simp
  have h1 := BlkAt.new w0 #[.int .i64 0] 3
  have g1 : w0.grownBy (w0.alloc (.cells #[.int .i64 0] 3)) none := World.grownBy_alloc _ _ none
  generalize hw1 : w0.alloc (.cells #[.int .i64 0] 3) = w1 at *
  have e1 : w1.heap.size = w.heap.size + 1 + 1 := by rw [← hw1]; simp [e0]
  have h2 := BlkAt.new w1 #[(.func (.func 188) #[] #[.pointer (some ⟨w.heap.size + 1, 0, none⟩), .pointer (some ⟨B, 0, none⟩)])] 201
  have g2 : w1.grownBy (w1.alloc (.cells #[(.func (.func 188) #[] #[.pointer (some ⟨w.heap.size + 1, 0, none⟩), .pointer (some ⟨B, 0, none⟩)])] 201)) none := World.grownBy_alloc _ _ none
  generalize hw2 : w1.alloc (.cells #[(.func (.func 188) #[] #[.pointer (some ⟨w.heap.size + 1, 0, none⟩), .pointer (some ⟨B, 0, none⟩)])] 201) = w2 at *
  have e2 : w2.heap.size = w.heap.size + 1 + 1 + 1 := by rw [← hw2]; simp [e1]
  have h3 := BlkAt.new w2 #[.int .i64 N] 3
  have g3 : w2.grownBy (w2.alloc (.cells #[.int .i64 N] 3)) none := World.grownBy_alloc _ _ none
  rw [e0] at h1
  rw [e1] at h2
  rw [e2] at h3
  exact ⟨kB.grown (grownBy_trans g1 (grownBy_trans g2 g3)), h0.grown (grownBy_trans g1 (grownBy_trans g2 g3)), h1.grown (grownBy_trans g2 g3), h2.grown g3, h3⟩

set_option maxRecDepth 100000 in
set_option maxHeartbeats 4000000 in
theorem mov_yes (N : Nat) (hN : 1 ≤ N ∧ N ≤ 6) (s : ByteArray) (w : World) {t : Tr} (ho : fOf (bl s) = some t) :
    Calls Tryz.prog 156 #[.int .i64 N, .string s] w fun e w' => e = .returned (.int .i64 (movU N t (cub N))) ∧ w.grownBy w' none := by
  have n0 : (w.alloc (.cells #[.int .i64 N] 3)).cell? ⟨w.heap.size, 0, none⟩ = some (.int .i64 N) := (BlkAt.new w #[.int .i64 N] 3).cell rfl
  have cc := chain_yes s (w.alloc (.cells #[.int .i64 N] 3)) (inB_t (n := N) (by omega)) ho
  have hn1 := fun w1 (g : (w.alloc (.cells #[.int .i64 N] 3)).grownBy w1 none) => (BlkAt.new w #[.int .i64 N] 3).grown g
  have hn3 : ∀ w1, (w.alloc (.cells #[.int .i64 N] 3)).grownBy w1 none → ∀ o1 o2 o3, (((w1.alloc o1).alloc o2).alloc o3).cell? ⟨w.heap.size, 0, none⟩ = some (.int .i64 N) := fun w1 g o1 o2 o3 => cell_grown (cell_grown n0 g) (grownBy_trans (World.grownBy_alloc w1 o1 none) (grownBy_trans (World.grownBy_alloc _ o2 none) (World.grownBy_alloc _ o3 none)))
  clear ho
  refine (callsIn_wide (n := 5)).1 ?_
  refine callsIn_of_wp_marks Tryz.func156 rfl trivial ?_ rfl
  simp only [Tryz.ntmps156, List.size_toArray, List.length_cons, List.length_nil, Nat.reduceAdd, Nat.reduceSub, Array.replicate_succ, Array.replicate_zero, List.push_toArray, List.append_toArray, List.nil_append, List.cons_append]
  gi_wp2_with (refine ⟨trivial, ?_⟩; gi_at_call 163; refine (callsIn_wide.2 cc).mono ?_; rintro e w1 ⟨rfl, g1⟩; have n3 := hn3 _ g1)
  clear cc
  have hb1 := hn1 _ g1
  have n1 : w1.cell? ⟨w.heap.size, 0, none⟩ = some (.int .i64 N) := hb1.cell rfl
  have hlt1 : w.heap.size < w1.heap.size := hb1.lt
  have g3 : w1.grownBy (((w1.alloc (.cells #[.iface (nodeT t) (nodeP t)] 131)).alloc (.cells #[.int .i64 0] 3)).alloc (.cells #[(.func (.func 188) #[] #[.pointer (some ⟨w1.heap.size + 1, 0, none⟩), .pointer (some ⟨w.heap.size, 0, none⟩)])] 201)) none := grownBy_trans (World.grownBy_alloc w1 (.cells #[.iface (nodeT t) (nodeP t)] 131) none) (grownBy_trans (World.grownBy_alloc _ (.cells #[.int .i64 0] 3) none) (World.grownBy_alloc _ (.cells #[(.func (.func 188) #[] #[.pointer (some ⟨w1.heap.size + 1, 0, none⟩), .pointer (some ⟨w.heap.size, 0, none⟩)])] 201) none))
  gi_wp2_with (refine ⟨trivial, ?_⟩; gi_at_call 186; refine (settings_any _ _ trivial rfl _ _).mono ?_; rintro e w' ⟨rfl, rfl⟩)
  have hM := MvBlk.made w.heap.size N t w1 hb1
  have hg := grownBy_trans (World.grownBy_alloc w (.cells #[.int .i64 N] 3) none) (grownBy_trans g1 (grownBy_trans g3 (World.grownBy_alloc _ (.cells #[.int .i64 N] 3) none)))
  clear n3 hn3 g3 n1 n0 hn1
  obtain ⟨W0, hW0⟩ : ∃ W0, ((((w1.alloc (.cells #[.iface (nodeT t) (nodeP t)] 131)).alloc (.cells #[.int .i64 0] 3)).alloc (.cells #[(.func (.func 188) #[] #[.pointer (some ⟨w1.heap.size + 1, 0, none⟩), .pointer (some ⟨w.heap.size, 0, none⟩)])] 201)).alloc (.cells #[.int .i64 N] 3)) = W0 := ⟨_, rfl⟩
  rw [hW0] at hM hg ⊢
  have hsz : W0.heap.size = w1.heap.size + 1 + 1 + 1 + 1 := by rw [← hW0]; simp
  clear hW0
  have hB0 : Below w.heap.size w W0 := below_of hg
  clear hg
  refine wpIn_rangeFunc_ownH rfl (show 1 ≤ 5 from by decide) (gf := 206) (lb := #[.pointer (some ⟨w1.heap.size + 1 + 1 + 1, 0, none⟩)]) rfl trivial (enters_of Tryz.func206 (by kernel_rfl) rfl)
    (settings_stops Fence.wide (5 - 1) trivial rfl (by decide) (w1.heap.size + 1 + 1 + 1) N hN W0 (by omega) (hM.2.2.2.2.cell rfl)) kpC_t (kpC_b (by omega)) (Below.refl _ _) (fun _ => rfl)
    (fun pre W => MvBlk w.heap.size w1.heap.size N t (upL N t pre) W ∧ Below w.heap.size w W)
    (fun _ _ _ => False)
    (OwnFrom.and (Own.from (MvBlk.own _ _ _ _ (fun pre => upL N t pre)) _) (ownFrom_below (Nat.le_refl _) (by omega)))
    (fun _ _ _ _ _ hs _ _ => hs)
    ⟨hM, hB0⟩
    (fun x a' W => ∃ b, w1.heap.size + 1 + 1 + 1 < b ∧ BlkAt W b (set4 N x) 164 ∧ a' = { tmps := #[.int .i64 N, .string s, .pointer (some ⟨w.heap.size, 0, none⟩), undef, .int .i64 0, .pointer (some ⟨w1.heap.size, 0, none⟩), .bool true, .pointer (some ⟨w1.heap.size + 1, 0, none⟩), .pointer (some ⟨w1.heap.size + 1 + 1, 0, none⟩), .pointer (some ⟨b, 0, none⟩), undef, .tuple #[.iface (nodeT t) (nodeP t), .bool true], .int .i64 N, .string s, .tuple #[.iface (nodeT t) (nodeP t), .bool true], .iface (nodeT t) (nodeP t), .bool true, .bool true, .bool false, (.func (.func 188) #[] #[.pointer (some ⟨w1.heap.size + 1, 0, none⟩), .pointer (some ⟨w.heap.size, 0, none⟩)]), .int .i64 N, .func (.func 206) #[] #[.pointer (some ⟨w1.heap.size + 1 + 1 + 1, 0, none⟩)], .agg #[.int .i64 N, .int .i64 (tA N x), .int .i64 (tB N x), .int .i64 (tC N x)], undef, undef, undef, undef, undef, undef, undef, undef, undef, undef, undef, undef, undef, undef, undef, undef, undef, undef], defers := [] })
    (fun x a' => Own.from (fun s A B row hs hg hr => by obtain ⟨b, h1, h2, h3⟩ := hs; exact ⟨b, h1, blk_own (β := Unit) b _ (fun _ => set4 N x) () A B row h2 hg hr, h3⟩) _) ?assign ?body ?done ?stop
  case assign =>
    rintro l pre x W K ⟨hA, hB⟩ hK
    simp only [encK]
    gi_wp2
    exact hK _ _ ((KeepsOthers.alloc _ _).from _) (KpC.grown hA.2.2.2.2.lt (World.grownBy_alloc _ _ none)) ⟨hA.grown (World.grownBy_alloc _ _ none), hB.alloc hB.size _⟩ ⟨W.heap.size, hA.2.2.2.2.lt, BlkAt.new W _ _, rfl⟩
  case body =>
    rintro l pre x a' W hl ⟨r, hr⟩ ⟨hA, hB⟩ ⟨b, hb, hbx, rfl⟩ hlt
    have x0 : W.cell? ⟨b, 0, none⟩ = some (.int .i64 N) := hbx.cell rfl
    have x1 : W.cell? ⟨b, 1, none⟩ = some (.int .i64 (tA N x)) := hbx.cell rfl
    have x2 : W.cell? ⟨b, 2, none⟩ = some (.int .i64 (tB N x)) := hbx.cell rfl
    have x3 : W.cell? ⟨b, 3, none⟩ = some (.int .i64 (tC N x)) := hbx.cell rfl
    have cs := setting_any (N : Int) ((tA N x : Int) + 1) (tB N x) (tC N x)
    have a0 := tA_le N x
    have b0 := tB_le N x
    have c0 := tC_le N x
    have hWb : b < W.heap.size := hbx.lt
    by_cases hA1 : tA N x = N
    · have hth : thrB (N : Int) ((tA N x : Int) + 1) (tB N x) (tC N x) = false := thrB_f1 (by
        cases hv : vokB (N : Int) ((tA N x : Int) + 1)
        · rfl
        · have := vokB_of hv; omega)
      have hA2 := Lib.hid hA1
      clear hA1
      rw [hth] at cs
      gi_wp2_with (refine ⟨trivial, ?_⟩; gi_at_call 159; refine (CallsIn.inRound l (callsIn_wide.2 (cs _))).mono ?_; rintro e w2 ⟨rfl, g2⟩)
      have g := grownBy_trans (World.grownBy_alloc W (.cells #[.int .i64 N, .int .i64 ((tA N x : Int) + 1), .int .i64 (tB N x), .int .i64 (tC N x)] 164) none) g2
      exact ⟨(KeepsOthers.of_grownBy g (by simp)).from _, KpC.grown hA.2.2.2.2.lt g, by rw [upL_s0 hA2.out]; exact hA.grown g, hB.trans ((below_of g).mono hB.size)⟩
    · have ht0 := tri_ok hN x
      have hth : thrB (N : Int) ((tA N x : Int) + 1) (tB N x) (tC N x) = true := by
        obtain ⟨_, h2, h3⟩ := thrB_of ht0
        exact thrB_mk (vokB_t (by omega)) h2 h3
      rw [hth] at cs
      gi_wp2_with (refine ⟨trivial, ?_⟩; gi_at_call 159; refine (CallsIn.inRound l (callsIn_wide.2 (cs _))).mono ?_; rintro e w2 ⟨rfl, g2⟩)
      have g0 := World.grownBy_alloc W (.cells #[.int .i64 N, .int .i64 ((tA N x : Int) + 1), .int .i64 (tB N x), .int .i64 (tC N x)] 164) none
      have hn2 := (BlkAt.new W #[.int .i64 N, .int .i64 ((tA N x : Int) + 1), .int .i64 (tB N x), .int .i64 (tC N x)] 164).grown g2
      have g := grownBy_trans g0 g2
      have hA2 := hA.grown g
      have hb2 := hbx.grown g
      have hB2 := hB.trans ((below_of g).mono hB.size)
      have cv : ∀ w : World, Calls Tryz.prog 160 #[.agg #[.int .i64 N, .int .i64 (tA N x), .int .i64 (tB N x), .int .i64 (tC N x)], .iface (nodeT t) (nodeP t)] w fun e w' => e = .returned (.int .i64 (atK N t x)) ∧ w.grownBy w' none := vt_all ht0 t
      have cu : ∀ w : World, Calls Tryz.prog 160 #[.agg #[.int .i64 N, .int .i64 ((tA N x : Int) + 1), .int .i64 (tB N x), .int .i64 (tC N x)], .iface (nodeT t) (nodeP t)] w fun e w' => e = .returned (.int .i64 (t.val N ((tA N x : Int) + 1) (tB N x) (tC N x))) ∧ w.grownBy w' none := vt_all hth t
      have h2p : twoB N (atK N t x) (t.val N ((tA N x : Int) + 1) (tB N x) (tC N x)) = true := twoB_mk (val_ok ht0 t) (val_ok hth t)
      have ck := fun w' hF hf hB => keep_any (N : Int) (upL N t pre) (atK N t x) (t.val N ((tA N x : Int) + 1) (tB N x) (tC N x)) (w1.heap.size + 1) w.heap.size w' hF hf hB h2p
      have hup : Hid (upL N t (pre ++ [x]) = farM (upL N t pre) (gap (atK N t x) (t.val N ((tA N x : Int) + 1) (tB N x) (tC N x)))) := upL_s1 hA1
      have hS : w2.drew.cell? ⟨w1.heap.size + 1 + 1, 0, none⟩ = some (.func (.func 188) #[] #[.pointer (some ⟨w1.heap.size + 1, 0, none⟩), .pointer (some ⟨w.heap.size, 0, none⟩)]) ∧ w2.drew.cell? ⟨w1.heap.size, 0, none⟩ = some (.iface (nodeT t) (nodeP t)) ∧ w2.drew.cell? ⟨b, 0, none⟩ = some (.int .i64 N) ∧ w2.drew.cell? ⟨b, 1, none⟩ = some (.int .i64 (tA N x)) ∧ w2.drew.cell? ⟨b, 2, none⟩ = some (.int .i64 (tB N x)) ∧ w2.drew.cell? ⟨b, 3, none⟩ = some (.int .i64 (tC N x)) ∧ w2.drew.cell? ⟨W.heap.size, 0, none⟩ = some (.int .i64 N) ∧ w2.drew.cell? ⟨W.heap.size, 1, none⟩ = some (.int .i64 ((tA N x : Int) + 1)) ∧ w2.drew.cell? ⟨W.heap.size, 2, none⟩ = some (.int .i64 (tB N x)) ∧ w2.drew.cell? ⟨W.heap.size, 3, none⟩ = some (.int .i64 (tC N x)) := ⟨hA2.2.2.2.1.cell rfl, hA2.2.1.cell rfl, hb2.cell rfl, hb2.cell rfl, hb2.cell rfl, hb2.cell rfl, hn2.cell rfl, hn2.cell rfl, hn2.cell rfl, hn2.cell rfl⟩
      generalize t.val N ((tA N x : Int) + 1) (tB N x) (tC N x) = q at *
      generalize atK N t x = p at *
      refine region_round (S := fun w' => w'.cell? ⟨w1.heap.size + 1 + 1, 0, none⟩ = some (.func (.func 188) #[] #[.pointer (some ⟨w1.heap.size + 1, 0, none⟩), .pointer (some ⟨w.heap.size, 0, none⟩)]) ∧ w'.cell? ⟨w1.heap.size, 0, none⟩ = some (.iface (nodeT t) (nodeP t)) ∧ w'.cell? ⟨b, 0, none⟩ = some (.int .i64 N) ∧ w'.cell? ⟨b, 1, none⟩ = some (.int .i64 (tA N x)) ∧ w'.cell? ⟨b, 2, none⟩ = some (.int .i64 (tB N x)) ∧ w'.cell? ⟨b, 3, none⟩ = some (.int .i64 (tC N x)) ∧ w'.cell? ⟨W.heap.size, 0, none⟩ = some (.int .i64 N) ∧ w'.cell? ⟨W.heap.size, 1, none⟩ = some (.int .i64 ((tA N x : Int) + 1)) ∧ w'.cell? ⟨W.heap.size, 2, none⟩ = some (.int .i64 (tB N x)) ∧ w'.cell? ⟨W.heap.size, 3, none⟩ = some (.int .i64 (tC N x))) (by kernel_rfl) (by kernel_rfl) hS (fun hH => ?_)
      refine tak_on 0 32 (v := ?v0) rfl rfl (by kernel_rfl) (by kernel_rfl) (by kernel_rfl) (by rfl) ?y0 hH ?r0
      case y0 => (intro w hSw; obtain ⟨z0, z1, z2, z3, z4, z5, z6, z7, z8, z9⟩ := hSw; go_simp; try with_reducible rfl)
      simp only [Act.put, List.setIfInBounds_toArray, List.set_cons_zero, List.set_cons_succ]
      refine tak_on 1 33 (v := ?v1) rfl rfl (by kernel_rfl) (by kernel_rfl) (by kernel_rfl) (by rfl) ?y1 hH ?r1
      case y1 => (intro w hSw; obtain ⟨z0, z1, z2, z3, z4, z5, z6, z7, z8, z9⟩ := hSw; go_simp; try with_reducible rfl)
      simp only [Act.put, List.setIfInBounds_toArray, List.set_cons_zero, List.set_cons_succ]
      refine tak_on 2 34 (v := ?v2) rfl rfl (by kernel_rfl) (by kernel_rfl) (by kernel_rfl) (by rfl) ?y2 hH ?r2
      case y2 => (intro w hSw; obtain ⟨z0, z1, z2, z3, z4, z5, z6, z7, z8, z9⟩ := hSw; go_simp; try with_reducible rfl)
      simp only [Act.put, List.setIfInBounds_toArray, List.set_cons_zero, List.set_cons_succ]
      refine tak_on 4 36 (v := ?v4) rfl rfl (by kernel_rfl) (by kernel_rfl) (by kernel_rfl) (by rfl) ?y4 hH ?r4
      case y4 => (intro w hSw; obtain ⟨z0, z1, z2, z3, z4, z5, z6, z7, z8, z9⟩ := hSw; go_simp; try with_reducible rfl)
      simp only [Act.put, List.setIfInBounds_toArray, List.set_cons_zero, List.set_cons_succ]
      refine tak_on 5 37 (v := ?v5) rfl rfl (by kernel_rfl) (by kernel_rfl) (by kernel_rfl) (by rfl) ?y5 hH ?r5
      case y5 => (intro w hSw; obtain ⟨z0, z1, z2, z3, z4, z5, z6, z7, z8, z9⟩ := hSw; go_simp; try with_reducible rfl)
      simp only [Act.put, List.setIfInBounds_toArray, List.set_cons_zero, List.set_cons_succ]
      refine wpAnyH_ready (rs := [3]) (by kernel_rfl) (by simp) ?_
      refine AllReadyH.cons rfl (fun K hK => ?_) AllReadyH.nil
      go_simp
      (with_reducible refine (cv _).mono ?_); rintro e w3 ⟨rfl, g3⟩
      obtain ⟨z0, z1, z2, z3, z4, z5, z6, z7, z8, z9⟩ := hH
      have hS3 := And.intro (cell_grown z0 g3) (And.intro (cell_grown z1 g3) (And.intro (cell_grown z2 g3) (And.intro (cell_grown z3 g3) (And.intro (cell_grown z4 g3) (And.intro (cell_grown z5 g3) (And.intro (cell_grown z6 g3) (And.intro (cell_grown z7 g3) (And.intro (cell_grown z8 g3) (cell_grown z9 g3)))))))))
      clear z0 z1 z2 z3 z4 z5 z6 z7 z8 z9
      refine hK.out _ _ hS3 (fun h3 => ?_)
      clear hK K hS3
      try simp only [Act.put, List.setIfInBounds_toArray, List.set_cons_zero, List.set_cons_succ]
      refine wpAnyH_ready (rs := [6]) (by kernel_rfl) (by simp) ?_
      refine AllReadyH.cons rfl (fun K hK => ?_) AllReadyH.nil
      go_simp
      (with_reducible refine (cu _).mono ?_); rintro e w4 ⟨rfl, g4⟩
      obtain ⟨z0, z1, z2, z3, z4, z5, z6, z7, z8, z9⟩ := h3
      have hS4 := And.intro (cell_grown z0 g4) (And.intro (cell_grown z1 g4) (And.intro (cell_grown z2 g4) (And.intro (cell_grown z3 g4) (And.intro (cell_grown z4 g4) (And.intro (cell_grown z5 g4) (And.intro (cell_grown z6 g4) (And.intro (cell_grown z7 g4) (And.intro (cell_grown z8 g4) (cell_grown z9 g4)))))))))
      clear z0 z1 z2 z3 z4 z5 z6 z7 z8 z9
      refine hK.out _ _ hS4 (fun h4 => ?_)
      clear hK K hS4
      try simp only [Act.put, List.setIfInBounds_toArray, List.set_cons_zero, List.set_cons_succ]
      have g24 : w2.grownBy w4 none := grownBy_trans (grownBy_drew (grownBy_refl w2 none)) (grownBy_trans g3 g4)
      have hA4 := hA2.grown g24
      have f4 : w4.cell? ⟨w1.heap.size + 1, 0, none⟩ = some (.int .i64 (upL N t pre)) := hA4.2.2.1.cell rfl
      have fz4 := hA4.2.2.1.frozen 0
      have fb4 : w4.cell? ⟨w.heap.size, 0, none⟩ = some (.int .i64 N) := hA4.1.cell rfl
      have ck4 := ck w4 f4 fz4 fb4
      clear ck f4 fz4 fb4
      have hs4 := g.size
      refine wpAnyH_ready (rs := [7]) (by kernel_rfl) (by simp) ?_
      refine AllReadyH.cons rfl (fun K hK => ?_) AllReadyH.nil
      go_simp
      (with_reducible refine ck4.mono ?_); rintro e w5 ⟨⟨v, rfl⟩, rfl⟩
      obtain ⟨z0, z1, z2, z3, z4, z5, z6, z7, z8, z9⟩ := h4
      refine hK.out _ _ ⟨(World.cell?_setCell_far w4.drew _ _ _ (by simp)).trans z0, (World.cell?_setCell_far w4.drew _ _ _ (by simp)).trans z1, (World.cell?_setCell_far w4.drew _ _ _ (by simp; omega)).trans z2, (World.cell?_setCell_far w4.drew _ _ _ (by simp; omega)).trans z3, (World.cell?_setCell_far w4.drew _ _ _ (by simp; omega)).trans z4, (World.cell?_setCell_far w4.drew _ _ _ (by simp; omega)).trans z5, (World.cell?_setCell_far w4.drew _ _ _ (by simp; omega)).trans z6, (World.cell?_setCell_far w4.drew _ _ _ (by simp; omega)).trans z7, (World.cell?_setCell_far w4.drew _ _ _ (by simp; omega)).trans z8, (World.cell?_setCell_far w4.drew _ _ _ (by simp; omega)).trans z9⟩ (fun h5 => ?_)
      clear hK K
      try simp only [Act.put, List.setIfInBounds_toArray, List.set_cons_zero, List.set_cons_succ]
      refine wpAnyH_done (by kernel_rfl) ⟨rfl, ?_⟩ _
      have gW := grownBy_trans g g24
      have hB4 := hB.trans ((below_of gW).mono hB.size)
      gi_wp2
      exact ⟨(((KeepsOthers.of_grownBy gW (by simp)).trans (KeepsOthers.drew _)).trans (KeepsOthers.setCell _ _ _)).from _, kpC_t (KpC.grown hA.2.2.2.2.lt gW) (KpC.set w4.drew (by simp) _), by rw [hup.out]; exact hA4.put (by omega) _, (hB4.drew).setCell (by simp <;> omega) _⟩
  case done =>
    rintro D ys W hD rfl ⟨hA, hB⟩ hK
    rw [upL_all] at hA
    have n0 : W.cell? ⟨w1.heap.size + 1, 0, none⟩ = some (.int .i64 (movU N t (cub N))) := hA.2.2.1.cell rfl
    gi_wp2
    refine ⟨by simp, .inl ⟨_, _, rfl, run_takeDeferred hK, ?_⟩⟩
    exact ⟨_, results_tmp rfl _ _ _, rfl, grown_of (hB.trans (belowK_b (w := w) (Nat.le_refl _) W D _ _ (by omega) hK rfl rfl))⟩
  case stop =>
    rintro D c pre W _ _ h _
    exact h.elim

theorem mov_no (n : Int) (s : ByteArray) (w : World) (h : inB n 1 6 = false ∨ fOf (bl s) = none) :
    Calls Tryz.prog 156 #[.int .i64 n, .string s] w fun e w' => e = .returned (.int .i64 (-1)) ∧ w.grownBy w' none := by
  have cc := chain_no n s (w.alloc (.cells #[.int .i64 n] 3)) h
  have g0 := World.grownBy_alloc w (.cells #[.int .i64 n] 3) none
  clear h
  go_enter Tryz.func156, Tryz.ntmps156
  go_wp2_with fail
  refine cc.mono ?_
  rintro e w1 ⟨v, hv, rfl, g1⟩
  clear cc
  rcases hv with rfl | ⟨T, p, rfl⟩
  all_goals
    go_wp2_with fail
    go_ret
    exact ⟨rfl, grownBy_trans g0 (grownBy_trans g1 (World.grownBy_alloc _ _ none))⟩

theorem mov_any : MovC := fun n s w => by
  cases hi : inB n 1 6
  · rw [movI_o hi]; exact mov_no n s w (.inl hi)
  · cases ho : fOf (bl s) with
    | none => rw [movI_n ho]; exact mov_no n s w (.inr ho)
    | some t =>
      obtain ⟨N, rfl, hN⟩ := nat_of hi
      rw [movI_t ho hi]
      exact mov_yes N hN s w ho

end Go.Proofs.YtlnffpofbfigaaaGreatDoor

/-
  The model's AgainstOf and SameAt. No condition.
-/
namespace Go.Proofs.YtlnffpofbfigaaaGreatDoor
open Go.RowKit

theorem least_neg (n : Int) (l : List UInt8) : (leastI n l < 0 ↔ (inB n 1 6 = false ∨ fOf l = none)) := by
  cases hi : inB n 1 6
  · rw [leastI_o hi]; simp
  · cases ho : fOf l with
    | none => rw [leastI_n ho]; simp
    | some t =>
      obtain ⟨N, rfl, hN⟩ := nat_of hi
      rw [leastI_t ho hi]
      have := vokB_of (lowU_ok hN t (cub N))
      simp
      omega

theorem all_step {p : Nat → Prop} {k : Nat} (h : ∀ j, j < k → p j) (e : p k) : ∀ j, j < k + 1 → p j := fun j hj => by
  by_cases h' : j < k
  · exact h j h'
  · have : j = k := by omega
    rw [this]; exact e

theorem sagof_no (n : Int) (s : ByteArray) (w : World) (h : inB n 1 6 = false ∨ fOf (bl s) = none) :
    Calls Tryz.prog 67 #[.int .i64 n, .string s] w fun e w' => e = .returned (.tuple #[.int .i64 (-1), .int .i64 (-1), .int .i64 (-1), .bool false]) ∧ w.grownBy w' none := by
  have cl := sleast_any n s w
  have hn := (least_neg n (bl s)).2 h
  clear h
  go_enter Tryz.func67, Tryz.ntmps67
  go_wp2_with fail
  refine cl.mono ?_
  rintro e w1 ⟨rfl, g1⟩
  clear cl
  go_wp2_with fail
  refine bodyPost_ret (results_tmp4 rfl _ _ _) rfl ?_
  exact ⟨rfl, g1⟩

set_option maxRecDepth 100000 in
set_option maxHeartbeats 4000000 in
theorem sagof_yes (N : Nat) (hN : 1 ≤ N ∧ N ≤ 6) (s : ByteArray) (w : World) {t : Tr} (ho : fOf (bl s) = some t) :
    Calls Tryz.prog 67 #[.int .i64 N, .string s] w fun e w' => e = .returned (agV N (bl s)) ∧ w.grownBy w' none := by
  have cl := sleast_any N s w
  have hi : inB (N : Int) 1 6 = true := inB_t (by omega)
  have hn : ¬ leastI N (bl s) < 0 := fun h => by
    have := (least_neg N (bl s)).1 h
    rw [hi, ho] at this
    simp at this
  obtain ⟨hs, hl⟩ := fOf_some ho
  have hsz : s.size ≤ 1048576 := by rw [bl_size, hs]; omega
  have cv : ∀ (k : Nat) (w : World), Calls Tryz.prog 111 #[.int .i64 N, .string s, .int .i64 (tA N k), .int .i64 (tB N k), .int .i64 (tC N k)] w fun e w' => e = .returned (.int .i64 (atK N t k)) ∧ w = w' := fun k w => sv_all (tri_ok hN k) t s w hs hsz
  have hag : agI N (bl s) = agN N t := agI_t ho hi
  have HA := Lib.hid hag
  clear ho hs hl hsz hi hag
  have hc := cub_le hN.2
  obtain ⟨M, m1, m2⟩ := cub_q hN
  have m0 : ¬ ((N : Int) + 1 = 0) := by omega
  go_enter Tryz.func67, Tryz.ntmps67
  go_wp2_with fail
  refine cl.mono ?_
  rintro e w1 ⟨rfl, g1⟩
  clear cl
  go_wp2_with fail
  go_loopw [9] (fun i wr => ∃ k : Nat, k ≤ cub N ∧ i = .int .i64 k ∧ (∀ j, j < k → atK N t j = N) ∧ w.grownBy wr none) (fun i _ => cub N - (intOf i).toNat)
  case atStart => exact ⟨0, by omega, rfl, fun j hj => absurd hj (by omega), g1⟩
  case round =>
    obtain ⟨k, hk, rfl, hall, hgr⟩ := hrel
    have HL := Lib.hid hall
    clear hall
    by_cases hlt : k < cub N
    · obtain ⟨D, d0, d1, p0, p1, p2, p3⟩ := place_q hlt
      have a0 := tA_le N k
      have b0 := tB_le N k
      have c0 := tC_le N k
      have z1 : IntKind.i64.wrap D = D := IntWalk.i64_in _ (by omega)
      have z2 : IntKind.i64.wrap (tA N k : Int) = tA N k := IntWalk.i64_in _ (by omega)
      have z3 : IntKind.i64.wrap (tB N k : Int) = tB N k := IntWalk.i64_in _ (by omega)
      have z4 : IntKind.i64.wrap (tC N k : Int) = tC N k := IntWalk.i64_in _ (by omega)
      have h0 := atK_le hN t k
      by_cases hv : atK N t k < N
      · have hd : decide (atK N t k < (N : Int)) = true := decide_eq_true hv
        have e := Lib.hid (agN_at hlt HL.out (by omega))
        clear h0 hv
        go_wp2
        go_region_held3 (fun w' => w.grownBy w' none) (first | exact grownBy_drew hgr | assumption) (first | (go_at_call 111; refine (cv k _).mono ?_; rintro e w2 ⟨rfl, rfl⟩))
        go_wp2
        go_quiet (fail)
        go_wp2
        refine bodyPost_ret (results_tmp4 rfl _ _ _) rfl ?_
        exact ⟨by rw [agV_s (HA.out.trans e.out)]; rfl, grownBy_drewN (grownBy_drew hgr) _⟩
      · have hd : decide (atK N t k < (N : Int)) = false := decide_eq_false hv
        have e : atK N t k = N := by omega
        have E := Lib.hid e
        clear h0 hv e
        go_wp2
        go_region_held3 (fun w' => w.grownBy w' none) (first | exact grownBy_drew hgr | assumption) (first | (go_at_call 111; refine (cv k _).mono ?_; rintro e w2 ⟨rfl, rfl⟩))
        go_wp2
        go_roundw
        case rel => exact ⟨k + 1, by omega, by go_num, all_step HL.out E.out, grownBy_drew hgr⟩
        case measure => simp [intOf]; omega
    · obtain rfl : k = cub N := by omega
      have e := Lib.hid (agN_no HL.out)
      go_wp2
      refine bodyPost_ret (results_tmp4 rfl _ _ _) rfl ?_
      exact ⟨by rw [agV_n (HA.out.trans e.out)]; rfl, hgr⟩

theorem sagof_any (n : Int) (s : ByteArray) (w : World) :
    Calls Tryz.prog 67 #[.int .i64 n, .string s] w fun e w' => e = .returned (agV n (bl s)) ∧ w.grownBy w' none := by
  cases hi : inB n 1 6
  · rw [agV_n (agI_o hi)]; exact sagof_no n s w (.inl hi)
  · cases ho : fOf (bl s) with
    | none => rw [agV_n (agI_n ho)]; exact sagof_no n s w (.inr ho)
    | some t =>
      obtain ⟨N, rfl, hN⟩ := nat_of hi
      exact sagof_yes N hN s w ho

end Go.Proofs.YtlnffpofbfigaaaGreatDoor

/-
  The model's ChainsFor. No condition.
-/
namespace Go.Proofs.YtlnffpofbfigaaaGreatDoor
open Go.RowKit

theorem schains_no (s : ByteArray) (w : World) (h : fOf (bl s) = none) :
    Calls Tryz.prog 69 #[.string s] w (IntsPost (chI (bl s)) w) := by
  have cf := fun w => sform_any s w
  rw [isF_f h] at cf
  have hp := Lib.hid (chI_n h)
  clear h
  go_enter Tryz.func69, Tryz.ntmps69
  go_wp2_with fail
  go_loopw [3, 4] (fun v i wr => v = .slice (some ⟨w.heap.size, 0, none⟩) 0 0 ∧ i = .int .i64 1 ∧ wr = w.alloc (.cells #[] 3)) (fun _ _ _ => 0)
  case atStart => exact ⟨rfl, rfl, rfl⟩
  case round =>
    obtain ⟨rfl, rfl, rfl⟩ := hrel
    go_wp2_with fail
    refine (cf _).mono ?_
    rintro e w2 ⟨rfl, rfl⟩
    clear cf
    go_wp2_with fail
    go_ret
    rw [hp.out]
    exact ⟨_, 0, rfl, OwnI.made w, World.grownBy_alloc _ _ none⟩

set_option maxRecDepth 100000 in
set_option maxHeartbeats 1600000 in
theorem schains_yes (s : ByteArray) (w : World) {t : Tr} (h : fOf (bl s) = some t) :
    Calls Tryz.prog 69 #[.string s] w (IntsPost (chI (bl s)) w) := by
  obtain ⟨i0, hi, hz0, hz1, hz2⟩ := info_parts infoInt
  have cf := fun w => sform_any s w
  rw [isF_t h] at cf
  have ca := fun n w => salways_any n s w
  clear h
  rw [← chTo_6]
  go_enter Tryz.func69, Tryz.ntmps69
  go_wp2_with fail
  go_loopw [3, 4] (fun v i wr => ChRel (bl s) w v i wr) (fun _ i _ => (7 - intOf i).toNat)
  case atStart => exact ⟨0, by omega, rfl, _, 0, rfl, OwnI.made w, World.grownBy_alloc _ _ none⟩
  case round =>
    obtain ⟨j, hj, rfl, a, cap, rfl, hown, hgr⟩ := hrel
    have hlen := chTo_len (bl s) j
    by_cases hlt : j < 6
    · have dj : decide ((j : Int) + 1 ≤ 6) = true := decide_eq_true (by omega)
      cases hb : alwB ((j + 1 : Nat) : Int) (bl s)
      · have e := Lib.hid (chTo_miss (l := bl s) (j := j) hb)
        have c2 : ∀ w : World, Calls Tryz.prog 64 #[.int .i64 ((j : Int) + 1), .string s] w fun e w' => e = .returned (.bool false) ∧ w.grownBy w' none := fun w => by have := ca ((j + 1 : Nat) : Int) w; rw [hb] at this; exact this
        clear hb ca
        go_wp2_with fail
        refine (cf _).mono ?_
        rintro e w2 ⟨rfl, rfl⟩
        clear cf
        go_wp2_with fail
        refine (c2 _).mono ?_
        rintro e w3 ⟨rfl, hg2⟩
        replace hown := hown.kept hg2
        replace hgr := grownBy_trans hgr hg2
        clear c2
        go_wp2_with fail
        go_roundw
        case rel => exact ⟨j + 1, by omega, by go_num, a, cap, by rw [e.out], by rw [e.out]; exact hown, hgr⟩
        case measure => simp [intOf]; omega
      · have e := Lib.hid (chTo_hit (l := bl s) (j := j) hb)
        have c2 : ∀ w : World, Calls Tryz.prog 64 #[.int .i64 ((j : Int) + 1), .string s] w fun e w' => e = .returned (.bool true) ∧ w.grownBy w' none := fun w => by have := ca ((j + 1 : Nat) : Int) w; rw [hb] at this; exact this
        clear hb ca
        go_wp2_with fail
        refine (cf _).mono ?_
        rintro e w2 ⟨rfl, rfl⟩
        clear cf
        go_wp2_with fail
        refine (c2 _).mono ?_
        rintro e w3 ⟨rfl, hg2⟩
        replace hown := hown.kept hg2
        replace hgr := grownBy_trans hgr hg2
        clear c2
        go_wp2_with (at_builtin; refine wpList_append_own _ rfl _ _ 102 rfl w.heap.size 3 i0 (.int .i64 0) 1 8 Tryz.underlying102 hi hz0 hz1 hz2 rfl (by decide) _ _ _ rfl (World.ownsRow.alloc hown _) ⟨w3.heap.size, 0, none⟩ 1 1 [.int .i64 ((j : Int) + 1)] rfl rfl ?c1 ?c2 ?c3 ?c4 ?c5 ?_)
        case c1 =>
          intro j u hj
          match j, hj with
          | 0, hj => simp at hj; subst hj; simp [Addr.add]
        case c2 => intro u hu; simp at hu; subst hu; rfl
        case c3 => unfold maxLen; omega
        case c4 => omega
        case c5 => have := hgr.size; simp; omega
        intro v' w4 hown' hgrow _
        have R := row_more hown hgr hown' (grow_box hgrow)
        rw [show ((j : Int) + 1) = ((j + 1 : Nat) : Int) from rfl, ← e.out] at R
        clear hown hown' hgrow
        go_wp2
        go_roundw
        case rel => exact ⟨j + 1, by omega, by go_num, R⟩
        case measure => simp [intOf]; omega
    · obtain rfl : j = 6 := by omega
      clear cf ca
      go_wp2
      go_ret
      exact ⟨a, cap, rfl, hown, hgr⟩

theorem schains_any (s : ByteArray) (w : World) :
    Calls Tryz.prog 69 #[.string s] w (IntsPost (chI (bl s)) w) := by
  cases h : fOf (bl s) with
  | none => exact schains_no s w h
  | some t => exact schains_yes s w h

end Go.Proofs.YtlnffpofbfigaaaGreatDoor
