/-
  nineBy, for each function value that it is handed: what that answers for the nine pairs of values. No condition but that it answers so, whatever new blocks lie there.
-/
import Derived.Test.YtbhfbpmfbknalaaTArr
import Derived.Laws.Rows
namespace Go.Proofs.Ytbhfbpmfbknalaa
open Go.RowKit

/-- The first k places told, the others 0. -/
def upK (f : Nat → Int) (k : Nat) (j : Nat) : Int := if j < k then f j else 0
theorem upK_0 (f : Nat → Int) : c9 (upK f 0) = c9 (fun _ => 0) := c9_congr fun k _ => by unfold upK; rw [if_neg (by omega)]
theorem upK_9 (f : Nat → Int) : c9 (upK f 9) = c9 f := c9_congr fun k hk => by unfold upK; rw [if_pos hk]
theorem c9_set (f : Nat → Int) {k : Nat} (hk : k < 9) (v : Int) : (c9 f).setIfInBounds k (.int .i64 v) = c9 (fun j => if j = k then v else f j) := by
  match k, hk with
  | 0, _ => rfl
  | 1, _ => rfl
  | 2, _ => rfl
  | 3, _ => rfl
  | 4, _ => rfl
  | 5, _ => rfl
  | 6, _ => rfl
  | 7, _ => rfl
  | 8, _ => rfl
theorem Blk9.set {w : World} {B : Nat} {f : Nat → Int} (h : Blk9 w B f) {k : Nat} (hk : k < 9) (v : Int) : Blk9 (w.setCell ⟨B, k, none⟩ (.int .i64 v)) B (fun j => if j = k then v else f j) := by
  unfold Blk9 at *
  rw [← c9_set f hk v]
  simp [World.setCell, Array.getElem?_modify, h]
theorem Blk9.eq {w : World} {B : Nat} {f g : Nat → Int} (h : Blk9 w B f) (e : c9 f = c9 g) : Blk9 w B g := by unfold Blk9 at *; rw [← e]; exact h
theorem upK_step (f : Nat → Int) (k : Nat) : (fun j => if j = k then f k else upK f k j) = upK f (k + 1) := by
  funext j
  unfold upK
  by_cases h : j = k
  · subst h; rw [if_pos rfl, if_pos (by omega)]
  · rw [if_neg h]
    by_cases h2 : j < k
    · rw [if_pos h2, if_pos (by omega)]
    · rw [if_neg h2, if_neg (by omega)]
theorem Blk9.free {w : World} {B : Nat} {f : Nat → Int} (h : Blk9 w B f) (k : Nat) : w.frozen? ⟨B, k, none⟩ = false := by
  unfold Blk9 at h
  simp [World.frozen?, h]
theorem Blk9.kept {w w' : World} {B : Nat} {f : Nat → Int} {row : Option Nat} (h : Blk9 w B f) (g : w.grownBy w' row) (hne : some B ≠ row) : Blk9 w' B f := (g.block B h.lt hne).trans h

theorem Blk9.cells {w : World} {B : Nat} {f : Nat → Int} (h : Blk9 w B f) :
    w.cell? ⟨B, 0, none⟩ = some (.int .i64 (f 0)) ∧ w.cell? ⟨B, 1, none⟩ = some (.int .i64 (f 1)) ∧ w.cell? ⟨B, 2, none⟩ = some (.int .i64 (f 2)) ∧ w.cell? ⟨B, 3, none⟩ = some (.int .i64 (f 3)) ∧ w.cell? ⟨B, 4, none⟩ = some (.int .i64 (f 4)) ∧ w.cell? ⟨B, 5, none⟩ = some (.int .i64 (f 5)) ∧ w.cell? ⟨B, 6, none⟩ = some (.int .i64 (f 6)) ∧ w.cell? ⟨B, 7, none⟩ = some (.int .i64 (f 7)) ∧ w.cell? ⟨B, 8, none⟩ = some (.int .i64 (f 8)) :=
  ⟨h.cell (by omega), h.cell (by omega), h.cell (by omega), h.cell (by omega), h.cell (by omega), h.cell (by omega), h.cell (by omega), h.cell (by omega), h.cell (by omega)⟩
theorem Blk9.frees {w : World} {B : Nat} {f : Nat → Int} (h : Blk9 w B f) :
    w.frozen? ⟨B, 0, none⟩ = false ∧ w.frozen? ⟨B, 1, none⟩ = false ∧ w.frozen? ⟨B, 2, none⟩ = false ∧ w.frozen? ⟨B, 3, none⟩ = false ∧ w.frozen? ⟨B, 4, none⟩ = false ∧ w.frozen? ⟨B, 5, none⟩ = false ∧ w.frozen? ⟨B, 6, none⟩ = false ∧ w.frozen? ⟨B, 7, none⟩ = false ∧ w.frozen? ⟨B, 8, none⟩ = false :=
  ⟨h.free _, h.free _, h.free _, h.free _, h.free _, h.free _, h.free _, h.free _, h.free _⟩

/-- Writes to a new block. -/
theorem grow_set {w w' : World} {B : Nat} (h : w.grownBy w' none) (hB : w.heap.size ≤ B) (j : Nat) (v : Value) : w.grownBy (w'.setCell ⟨B, j, none⟩ v) none := by
  have k := grownBy_set w' B j v
  exact ⟨k.os.trans h.os, k.tape.trans h.tape, k.output.trans h.output, Nat.le_trans h.size k.size,
    fun i hi _ => (k.block i (Nat.lt_of_lt_of_le hi h.size) (by simp; omega)).trans (h.block i hi (by simp))⟩
theorem grows9 {w w' : World} (h : w.grownBy w' none) {v0 v1 v2 v3 v4 v5 v6 v7 v8 : Value} : w.grownBy (((((((((w'.setCell ⟨w.heap.size, 0, none⟩ v0).setCell ⟨w.heap.size, 1, none⟩ v1).setCell ⟨w.heap.size, 2, none⟩ v2).setCell ⟨w.heap.size, 3, none⟩ v3).setCell ⟨w.heap.size, 4, none⟩ v4).setCell ⟨w.heap.size, 5, none⟩ v5).setCell ⟨w.heap.size, 6, none⟩ v6).setCell ⟨w.heap.size, 7, none⟩ v7).setCell ⟨w.heap.size, 8, none⟩ v8) none :=
  grow_set (grow_set (grow_set (grow_set (grow_set (grow_set (grow_set (grow_set (grow_set h (Nat.le_refl _) _ _) (Nat.le_refl _) _ _) (Nat.le_refl _) _ _) (Nat.le_refl _) _ _) (Nat.le_refl _) _ _) (Nat.le_refl _) _ _) (Nat.le_refl _) _ _) (Nat.le_refl _) _ _) (Nat.le_refl _) _ _

theorem info9 : (Try.prog.info? 59).map (·.size) = some 9 := by kernel_rfl
theorem Blk9.put {w : World} {B : Nat} {f : Nat → Int} (h : Blk9 w B f) (g : Nat → Int) : Blk9 (((((((((w.setCell ⟨B, 0, none⟩ (.int .i64 (g 0))).setCell ⟨B, 1, none⟩ (.int .i64 (g 1))).setCell ⟨B, 2, none⟩ (.int .i64 (g 2))).setCell ⟨B, 3, none⟩ (.int .i64 (g 3))).setCell ⟨B, 4, none⟩ (.int .i64 (g 4))).setCell ⟨B, 5, none⟩ (.int .i64 (g 5))).setCell ⟨B, 6, none⟩ (.int .i64 (g 6))).setCell ⟨B, 7, none⟩ (.int .i64 (g 7))).setCell ⟨B, 8, none⟩ (.int .i64 (g 8))) B g :=
  (((((((((h.set (k := 0) (by omega) (g 0)).set (k := 1) (by omega) (g 1)).set (k := 2) (by omega) (g 2)).set (k := 3) (by omega) (g 3)).set (k := 4) (by omega) (g 4)).set (k := 5) (by omega) (g 5)).set (k := 6) (by omega) (g 6)).set (k := 7) (by omega) (g 7)).set (k := 8) (by omega) (g 8)).eq (by unfold c9; simp)
theorem res9 {fn : Func} {p : Tmp} (h : fn.results = #[.cell p 59]) (tmps : Array Value) {w : World} {B : Nat} {f : Nat → Int} (hp : tmps.getD p undef = .pointer (some ⟨B, 0, none⟩)) (hB : Blk9 w B f) :
    (results fn tmps).run Try.prog w = .ok (a9 f) w := results_cell_row h tmps w B 59 (c9 f) (0, 0) _ hp hB Try.underlying59 rfl info9

def NbRel (f : Nat → Int) (w : World) (i : Value) (wr : World) : Prop :=
  ∃ k : Nat, k ≤ 9 ∧ i = .int .i64 k ∧ Blk9 wr (w.heap.size + 1) (upK f k) ∧ Blk9 wr w.heap.size (fun _ => 0) ∧ w.grownBy wr none

theorem nb_step {f : Nat → Int} {w wr w2 : World} {k : Nat} (hk : k < 9) (h1 : Blk9 wr (w.heap.size + 1) (upK f k)) (h0 : Blk9 wr w.heap.size (fun _ => 0)) (hg : w.grownBy wr none) (g2 : wr.grownBy w2 none) :
    Blk9 (w2.setCell ⟨w.heap.size + 1, k, none⟩ (.int .i64 (f k))) (w.heap.size + 1) (upK f (k + 1)) ∧ Blk9 (w2.setCell ⟨w.heap.size + 1, k, none⟩ (.int .i64 (f k))) w.heap.size (fun _ => 0) ∧ w.grownBy (w2.setCell ⟨w.heap.size + 1, k, none⟩ (.int .i64 (f k))) none := by
  refine ⟨upK_step f k ▸ (h1.grown g2).set hk (f k), (h0.grown g2).kept (grownBy_set w2 (w.heap.size + 1) k (.int .i64 (f k))) (by simp), ?_⟩
  have hgg := grownBy_trans hg g2
  have k2 := grownBy_set w2 (w.heap.size + 1) k (.int .i64 (f k))
  exact ⟨k2.os.trans hgg.os, k2.tape.trans hgg.tape, k2.output.trans hgg.output, Nat.le_trans hgg.size k2.size,
    fun i hi _ => (k2.block i (Nat.lt_of_lt_of_le hi hgg.size) (by simp; omega)).trans (hgg.block i hi (by simp))⟩

set_option maxHeartbeats 2000000 in
theorem nine_any (K : Nat) (cs : Array Value) (f : Nat → Int) (w : World) (eg : ∀ args w, (callFunc K args).run Try.prog w = .ok (.enter K args) w)
    (hc : ∀ w2, w.grownBy w2 none → ∀ k, k < 9 → Calls Try.prog K (#[.int .i64 ((k / 3 : Nat) : Int), .int .i64 ((k % 3 : Nat) : Int)] ++ cs) w2 fun e w' => e = .returned (.int .i64 (f k)) ∧ w2.grownBy w' none) :
    Calls Try.prog 51 #[.func (.func K) #[] cs] w fun e w' => e = .returned (a9 f) ∧ w.grownBy w' none := by
  have Hc := Lib.hid hc
  clear hc
  have hb0 : Blk9 ((w.alloc (.cells (c9 fun _ => 0) 59)).alloc (.cells (c9 fun _ => 0) 59)) w.heap.size (fun _ => 0) := (Blk9.new w _).grown (World.grownBy_alloc _ _ none)
  have hb1 : Blk9 ((w.alloc (.cells (c9 fun _ => 0) 59)).alloc (.cells (c9 fun _ => 0) 59)) (w.heap.size + 1) (fun _ => 0) := by simpa using Blk9.new (w.alloc (.cells (c9 fun _ => 0) 59)) (fun _ => 0)
  have hg : w.grownBy ((w.alloc (.cells (c9 fun _ => 0) 59)).alloc (.cells (c9 fun _ => 0) 59)) none := grownBy_trans (World.grownBy_alloc _ _ none) (World.grownBy_alloc _ _ none)
  have H0 := Lib.hid hb0
  have H1 := Lib.hid (hb1.eq (upK_0 f).symm)
  have HG := Lib.hid hg
  clear hb0 hb1 hg
  unfold a9
  go_enter Try.func51, Try.ntmps51
  go_wp2_with fail
  go_loopw [5] (fun i wr => NbRel f w i wr) (fun i _ => 9 - (intOf i).toNat)
  case atStart => exact ⟨0, by omega, rfl, H1.out, H0.out, HG.out⟩
  case round =>
    obtain ⟨k, hk, rfl, h1, h0, hgr⟩ := hrel
    by_cases hlt : k < 9
    · have Hst := Lib.hid (fun w2 (g2 : wr.grownBy w2 none) => nb_step hlt h1 h0 hgr g2)
      have Hx := Lib.hid h1
      have c1 := Hc.out wr hgr k hlt
      have tA : (k : Int).tdiv 3 = ((k / 3 : Nat) : Int) := by rw [Int.tdiv_eq_ediv_of_nonneg (by omega)]; omega
      have tB : (k : Int).tmod 3 = ((k % 3 : Nat) : Int) := by rw [Int.tmod_eq_emod_of_nonneg (by omega)]; omega
      obtain ⟨A, hA⟩ : ∃ A, A = k / 3 := ⟨_, rfl⟩
      obtain ⟨B, hB⟩ : ∃ B, B = k % 3 := ⟨_, rfl⟩
      rw [← hA] at c1 tA
      rw [← hB] at c1 tB
      have eA : (k : Int) / 3 = (A : Int) := by omega
      have eB : (k : Int) % 3 = (B : Int) := by omega
      have i0 : (0 : Int) ≤ (k : Int) := by omega
      have i1 : (k : Int) < 9 := by omega
      have hfr0 := Lib.hid (fun w2 (g2 : wr.grownBy w2 none) => (h1.grown g2).free k)
      have hce := h1.cell hlt
      have Hk := Lib.hid hlt
      clear h1 h0 hgr hA hB Hx hk
      go_wp2_with fail
      refine c1.mono ?_
      rintro e w2 ⟨rfl, g2⟩
      have hst := Hst.out w2 g2
      have hfr2 : w2.frozen? ⟨w.heap.size + 1, k, none⟩ = false := by rw [hfr0.out w2 g2]
      have hce2 := g2.cell hce (by simp)
      clear hce c1
      have Hs := Lib.hid hst
      clear hst
      generalize f k = v at *
      go_wp2_with fail
      go_roundw
      case rel => exact ⟨k + 1, by have := Hk.out; omega, by go_num, Hs.out.1, Hs.out.2.1, Hs.out.2.2⟩
      case measure => have := Hk.out; simp [intOf]; omega
    · obtain rfl : k = 9 := by omega
      obtain ⟨a0, a1, a2, a3, a4, a5, a6, a7, a8⟩ := (h1.eq (upK_9 f)).cells
      obtain ⟨b0, b1, b2, b3, b4, b5, b6, b7, b8⟩ := h0.cells
      obtain ⟨d0, d1, d2, d3, d4, d5, d6, d7, d8⟩ := h0.frees
      have hput := Lib.hid (h0.put f)
      clear h1 h0
      have HGr := Lib.hid hgr
      clear hgr
      go_wp2_with fail
      exact bodyPost_ret (res9 rfl _ rfl hput.out) rfl ⟨rfl, grows9 HGr.out⟩

end Go.Proofs.Ytbhfbpmfbknalaa
