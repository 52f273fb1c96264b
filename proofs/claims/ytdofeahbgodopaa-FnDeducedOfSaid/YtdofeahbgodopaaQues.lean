/-
  Questions: impl.truthOf and what it hands back; impl.premisesTrue and what it hands back: the premises' questions in a slice that a function holds. No condition.
-/
import Derived.Test.YtdofeahbgodopaaPair
import Derived.Test.YtdofeahbgodopaaStrs
import Derived.Test.YtdofeahbgodopaaAgn
import Derived.Deep.AppendLies
import Derived.Deep.RegionLaw
import Derived.RangeFuncBox
namespace Go.Proofs.Ytdofeahbgodopaa
open Go.RowKit Go.Shelf

/-- A setting's value at a place. -/
def atV (N x : Nat) : Value := .agg #[.int .i64 N, .int .i64 (tA N x), .int .i64 (tB N x), .int .i64 (tC N x)]
def qV (B : Nat) : Value := .func (.func 64) #[] #[.pointer (some ⟨B, 0, none⟩)]
def pV (B : Nat) : Value := .func (.func 62) #[] #[.pointer (some ⟨B, 0, none⟩)]

theorem truth_any (t : Tr) (w : World) :
    Calls Try.prog 46 #[.iface (nodeT t) (nodeP t)] w fun e w' => e = .returned (.func (.func 64) #[] #[.pointer (some ⟨w.heap.size, 0, none⟩)]) ∧ w' = w.alloc (.cells #[.iface (nodeT t) (nodeP t)] 65) := by
  go_enter Try.func46, Try.ntmps46
  go_wp2_with fail
  go_ret
  exact ⟨rfl, rfl⟩

set_option maxRecDepth 100000 in
set_option maxHeartbeats 2000000 in
theorem tru1_any (N : Nat) (hN : 1 ≤ N ∧ N ≤ 6) (x : Nat) (t : Tr) (B : Nat) (w : World) (hB : w.cell? ⟨B, 0, none⟩ = some (.iface (nodeT t) (nodeP t))) :
    Calls Try.prog 64 #[.agg #[.int .i64 N, .int .i64 (tA N x), .int .i64 (tB N x), .int .i64 (tC N x)], .pointer (some ⟨B, 0, none⟩)] w fun e w' => e = .returned (.bool (truK N t x)) ∧ w.grownBy w' none := by
  have cv : ∀ w : World, Calls Try.prog 58 #[.agg #[.int .i64 N, .int .i64 (tA N x), .int .i64 (tB N x), .int .i64 (tC N x)], .iface (nodeT t) (nodeP t)] w fun e w' => e = .returned (.int .i64 (atK N t x)) ∧ w.grownBy w' none := vt_all (tri_ok hN x) t
  have hq := BlkAt.new w #[.int .i64 N, .int .i64 (tA N x), .int .i64 (tB N x), .int .i64 (tC N x)] 74
  have g0 : w.grownBy (w.alloc (.cells #[.int .i64 N, .int .i64 (tA N x), .int .i64 (tB N x), .int .i64 (tC N x)] 74)) none := World.grownBy_alloc _ _ none
  have t0 := cell_grown hB g0
  go_enter Try.func64, Try.ntmps64
  go_wp2_with fail
  obtain ⟨wb, hwb⟩ : ∃ wb : World, wb = w.alloc (.cells #[.int .i64 N, .int .i64 (tA N x), .int .i64 (tB N x), .int .i64 (tC N x)] 74) := ⟨_, rfl⟩
  rw [← hwb] at hq g0 t0 ⊢
  have hb : wb.drew.cell? ⟨w.heap.size, 0, none⟩ = some (.int .i64 N) ∧ wb.drew.cell? ⟨w.heap.size, 1, none⟩ = some (.int .i64 (tA N x)) ∧ wb.drew.cell? ⟨w.heap.size, 2, none⟩ = some (.int .i64 (tB N x)) ∧ wb.drew.cell? ⟨w.heap.size, 3, none⟩ = some (.int .i64 (tC N x)) ∧ wb.drew.cell? ⟨B, 0, none⟩ = some (.iface (nodeT t) (nodeP t)) ∧ w.grownBy wb.drew none :=
    ⟨hq.cell rfl, hq.cell rfl, hq.cell rfl, hq.cell rfl, t0, grownBy_drew g0⟩
  clear hwb hq g0 t0 hB
  go_region_held3 (fun w' => w'.cell? ⟨w.heap.size, 0, none⟩ = some (.int .i64 N) ∧ w'.cell? ⟨w.heap.size, 1, none⟩ = some (.int .i64 (tA N x)) ∧ w'.cell? ⟨w.heap.size, 2, none⟩ = some (.int .i64 (tB N x)) ∧ w'.cell? ⟨w.heap.size, 3, none⟩ = some (.int .i64 (tC N x)) ∧ w'.cell? ⟨B, 0, none⟩ = some (.iface (nodeT t) (nodeP t)) ∧ w.grownBy w' none)
    (first | exact hb | exact held5 (by assumption) gx | assumption)
    (first | (go_at_call 58; refine (cv _).mono ?_; rintro e w2 ⟨rfl, gx⟩))
  all_goals
    go_wp2_with fail
    go_ret
    exact ⟨rfl, grownBy_trans hb.2.2.2.2.2 gx⟩

end Go.Proofs.Ytdofeahbgodopaa
