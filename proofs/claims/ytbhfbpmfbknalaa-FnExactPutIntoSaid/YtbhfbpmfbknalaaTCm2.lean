/-
  impl's composed and table.
-/
import Derived.Test.YtbhfbpmfbknalaaTCom
namespace Go.Proofs.Ytbhfbpmfbknalaa
open Go.RowKit

theorem four_new (w : World) (t u v z : Nat → Int) :
    let wb := (((w.alloc (.cells (c9 t) 59)).alloc (.cells (c9 u) 59)).alloc (.cells (c9 v) 59)).alloc (.cells (c9 z) 59)
    Blk9 wb w.heap.size t ∧ Blk9 wb (w.heap.size + 1) u ∧ Blk9 wb (w.heap.size + 2) v ∧ Blk9 wb (w.heap.size + 3) z ∧ w.grownBy wb none := by
  intro wb
  have g1 : w.grownBy (w.alloc (.cells (c9 t) 59)) none := World.grownBy_alloc _ _ none
  have b1 := Blk9.new w t
  have s1 : (w.alloc (.cells (c9 t) 59)).heap.size = w.heap.size + 1 := by simp
  generalize hw1 : w.alloc (.cells (c9 t) 59) = w1 at *
  have g2 : w1.grownBy (w1.alloc (.cells (c9 u) 59)) none := World.grownBy_alloc _ _ none
  have b2 := Blk9.new w1 u
  have s2 : (w1.alloc (.cells (c9 u) 59)).heap.size = w.heap.size + 2 := by simp [s1]
  rw [s1] at b2
  generalize hw2 : w1.alloc (.cells (c9 u) 59) = w2 at *
  have g3 : w2.grownBy (w2.alloc (.cells (c9 v) 59)) none := World.grownBy_alloc _ _ none
  have b3 := Blk9.new w2 v
  have s3 : (w2.alloc (.cells (c9 v) 59)).heap.size = w.heap.size + 3 := by simp [s2]
  rw [s2] at b3
  generalize hw3 : w2.alloc (.cells (c9 v) 59) = w3 at *
  have g4 : w3.grownBy (w3.alloc (.cells (c9 z) 59)) none := World.grownBy_alloc _ _ none
  have b4 := Blk9.new w3 z
  rw [s3] at b4
  have hwb : wb = w3.alloc (.cells (c9 z) 59) := by rw [← hw3, ← hw2, ← hw1]
  rw [hwb]
  exact ⟨((b1.grown g2).grown g3).grown g4, (b2.grown g3).grown g4, b3.grown g4, b4, grownBy_trans (grownBy_trans (grownBy_trans g1 g2) g3) g4⟩

def A9Post (f : Nat → Int) (w : World) (e : Ending) (w' : World) : Prop := e = .returned (a9 f) ∧ w.grownBy w' none

set_option maxHeartbeats 2000000 in
theorem com_any (t u v : Nat → Int) (hu : ok3 u) (hv : ok3 v) (w : World) :
    Calls Try.prog 59 #[a9 t, a9 u, a9 v] w (A9Post (putF t u v) w) := by
  have h4 := four_new w t u v (fun _ => 0)
  obtain ⟨wb, hwb⟩ : ∃ wb, wb = (((w.alloc (.cells (c9 t) 59)).alloc (.cells (c9 u) 59)).alloc (.cells (c9 v) 59)).alloc (.cells (c9 fun _ => 0) 59) := ⟨_, rfl⟩
  simp only [← hwb] at h4
  obtain ⟨bT, bU, bV, bR, gw⟩ := h4
  have cn := nine_any 79 #[.pointer (some ⟨w.heap.size, 0, none⟩), .pointer (some ⟨w.heap.size + 1, 0, none⟩), .pointer (some ⟨w.heap.size + 2, 0, none⟩)] (putF t u v) wb (fun args w => by kernel_rfl) (fun w2 g k hk => by
    have e : (3 * ((k / 3 : Nat) : Int) + ((k % 3 : Nat) : Int)).toNat = k := by omega
    have := com1_any t u v ((k / 3 : Nat) : Int) ((k % 3 : Nat) : Int) (by omega) (by omega) (by rw [e]; exact hu k hk) (by rw [e]; exact hv k hk) w.heap.size (w.heap.size + 1) (w.heap.size + 2) w2 (bT.grown g) (bU.grown g) (bV.grown g)
    rw [e] at this
    exact this)
  have GW := Lib.hid gw
  have BR := Lib.hid bR
  clear bT bU bV bR gw
  unfold a9
  unfold c9 at hwb
  simp only [c9]
  go_enter Try.func59, Try.ntmps59
  go_wp2_with fail
  rw [← hwb]
  clear hwb
  refine cn.mono ?_
  rintro e w2 ⟨rfl, g2⟩
  have R2 := BR.out.grown g2
  obtain ⟨b0, b1, b2, b3, b4, b5, b6, b7, b8⟩ := R2.cells
  obtain ⟨d0, d1, d2, d3, d4, d5, d6, d7, d8⟩ := R2.frees
  have hput := Lib.hid (R2.put (putF t u v))
  have gput := Lib.hid (grow_at (grownBy_trans GW.out g2) (grow_cps (w := w2) (w.heap.size + 3) (putF t u v)) (by omega))
  clear R2 cn
  unfold a9 c9
  go_wp2_with fail
  exact bodyPost_ret (res9 rfl _ rfl hput.out) rfl ⟨rfl, gput.out⟩

end Go.Proofs.Ytbhfbpmfbknalaa
