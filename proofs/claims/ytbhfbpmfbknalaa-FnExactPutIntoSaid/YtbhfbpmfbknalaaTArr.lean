/-
  Tables as arrays of nine: the value, its block, at. No condition.
-/
import Derived.Test.YtbhfbpmfbknalaaTSpec
import Derived.Deep.RegionHeld
namespace Go.Proofs.Ytbhfbpmfbknalaa
open Go.RowKit

/-- The nine values of a table, place by place. -/
def c9 (f : Nat → Int) : Array Value := #[.int .i64 (f 0), .int .i64 (f 1), .int .i64 (f 2), .int .i64 (f 3), .int .i64 (f 4), .int .i64 (f 5), .int .i64 (f 6), .int .i64 (f 7), .int .i64 (f 8)]
def a9 (f : Nat → Int) : Value := .agg (c9 f)
theorem c9_at (f : Nat → Int) {k : Nat} (hk : k < 9) : (c9 f)[k]? = some (.int .i64 (f k)) := by
  match k, hk with
  | 0, _ => rfl
  | 1, _ => rfl
  | 2, _ => rfl
  | 3, _ => rfl
  | 4, _ => rfl
  | 5, _ => rfl
  | 6, _ => rfl
  | 7, _ => rfl
  | 8, _ => rfl
theorem c9_congr {f g : Nat → Int} (h : ∀ k, k < 9 → f k = g k) : c9 f = c9 g := by
  unfold c9
  rw [h 0 (by omega), h 1 (by omega), h 2 (by omega), h 3 (by omega), h 4 (by omega), h 5 (by omega), h 6 (by omega), h 7 (by omega), h 8 (by omega)]
/-- Block B holds the nine values. -/
def Blk9 (w : World) (B : Nat) (f : Nat → Int) : Prop := w.heap[B]? = some (.cells (c9 f) 59)
theorem Blk9.cell {w : World} {B : Nat} {f : Nat → Int} (h : Blk9 w B f) {k : Nat} (hk : k < 9) : w.cell? ⟨B, k, none⟩ = some (.int .i64 (f k)) := by
  unfold Blk9 at h
  simp [World.cell?, h, c9_at f hk]
theorem Blk9.lt {w : World} {B : Nat} {f : Nat → Int} (h : Blk9 w B f) : B < w.heap.size := (Array.getElem?_eq_some_iff.1 h).1
theorem Blk9.grown {w w' : World} {B : Nat} {f : Nat → Int} (h : Blk9 w B f) (g : w.grownBy w' none) : Blk9 w' B f := (g.block B h.lt (by simp)).trans h
theorem Blk9.new (w : World) (f : Nat → Int) : Blk9 (w.alloc (.cells (c9 f) 59)) w.heap.size f := heap_alloc_new w _

set_option maxHeartbeats 1000000 in
theorem at_any (f : Nat → Int) (a b : Nat) (ha : a < 3) (hb : b < 3) (w : World) :
    Calls Try.prog 49 #[a9 f, .int .i64 a, .int .i64 b] w fun e w' => e = .returned (.int .i64 (f (3 * a + b))) ∧ w.grownBy w' none := by
  have hn := Blk9.new w f
  have hc := hn.cell (k := 3 * a + b) (by omega)
  have i0 : (0 : Int) ≤ 3 * (a : Int) + (b : Int) := by omega
  have i1 : 3 * (a : Int) + (b : Int) < 9 := by omega
  have e9 : ((3 * a + b : Nat) : Int) = 3 * (a : Int) + (b : Int) := by omega
  have hg : w.grownBy (w.alloc (.cells (c9 f) 59)) none := World.grownBy_alloc _ _ none
  clear hn
  unfold a9
  unfold c9 at *
  generalize f (3 * a + b) = v at *
  go_enter Try.func49, Try.ntmps49
  go_wp2_with fail
  go_ret
  exact ⟨rfl, hg⟩

end Go.Proofs.Ytbhfbpmfbknalaa
