/-
  impl's nineOf: the nine values of a table that was handed over, and whether it is one.
-/
import Derived.Test.YtbhfbpmfbknalaaTOk
namespace Go.Proofs.Ytbhfbpmfbknalaa
open Go.RowKit

/-- The nine values of a table; 0 everywhere, if it is none. -/
def fT (xs : List Int) (k : Nat) : Int := if triB xs = true then xs.getD k 0 else 0
theorem fT_t {xs : List Int} (h : triB xs = true) : fT xs = fun k => xs.getD k 0 := by funext k; unfold fT; rw [if_pos h]
theorem fT_f {xs : List Int} (h : triB xs = false) : fT xs = fun _ => 0 := by funext k; unfold fT; rw [h]; simp
/-- The nine values as a list. -/
def v9 (f : Nat → Int) : List Value := [.int .i64 (f 0), .int .i64 (f 1), .int .i64 (f 2), .int .i64 (f 3), .int .i64 (f 4), .int .i64 (f 5), .int .i64 (f 6), .int .i64 (f 7), .int .i64 (f 8)]
theorem v9_at (f : Nat → Int) {k : Nat} {v : Value} (h : (v9 f)[k]? = some v) : k < 9 ∧ v = .int .i64 (f k) := by
  match k, h with
  | 0, h => exact ⟨by omega, (Option.some.inj h).symm⟩
  | 1, h => exact ⟨by omega, (Option.some.inj h).symm⟩
  | 2, h => exact ⟨by omega, (Option.some.inj h).symm⟩
  | 3, h => exact ⟨by omega, (Option.some.inj h).symm⟩
  | 4, h => exact ⟨by omega, (Option.some.inj h).symm⟩
  | 5, h => exact ⟨by omega, (Option.some.inj h).symm⟩
  | 6, h => exact ⟨by omega, (Option.some.inj h).symm⟩
  | 7, h => exact ⟨by omega, (Option.some.inj h).symm⟩
  | 8, h => exact ⟨by omega, (Option.some.inj h).symm⟩
  | _ + 9, h => exact absurd h (by simp [v9])
theorem v9_one (f : Nat → Int) : ∀ v ∈ v9 f, v.oneCell' = true := by
  intro v hv
  simp [v9] at hv
  rcases hv with rfl | rfl | rfl | rfl | rfl | rfl | rfl | rfl | rfl <;> rfl
theorem Blk9.cps {w : World} {B : Nat} {f : Nat → Int} (h : Blk9 w B f) (g : Nat → Int) : Blk9 (w.setCells B 0 (v9 g)) B g := h.put g
theorem grow_cps {w : World} (B : Nat) (g : Nat → Int) : w.grownBy (w.setCells B 0 (v9 g)) (some B) := by
  have h := fun (u : World) (j : Nat) (v : Value) => grownBy_set u B j v
  exact grownBy_trans (grownBy_trans (grownBy_trans (grownBy_trans (grownBy_trans (grownBy_trans (grownBy_trans (grownBy_trans (h w 0 _) (h _ 1 _)) (h _ 2 _)) (h _ 3 _)) (h _ 4 _)) (h _ 5 _)) (h _ 6 _)) (h _ 7 _)) (h _ 8 _)
theorem grow_at {a b c : World} {B : Nat} (h : a.grownBy b none) (k : b.grownBy c (some B)) (hB : a.heap.size ≤ B) : a.grownBy c none :=
  ⟨k.os.trans h.os, k.tape.trans h.tape, k.output.trans h.output, Nat.le_trans h.size k.size,
    fun i hi _ => (k.block i (Nat.lt_of_lt_of_le hi h.size) (by simp; omega)).trans (h.block i hi (by simp))⟩
theorem sizeInt : (Try.prog.info? 3).map (·.size) = some 1 := by kernel_rfl

/-- What nineOf leaves: the array and the truth. -/
def NoPost (xs : List Int) (w : World) (e : Ending) (w' : World) : Prop := e = .returned (.tuple #[a9 (fT xs), .bool (triB xs)]) ∧ w.grownBy w' none
theorem resNo {fn : Func} {p u : Tmp} (h : fn.results = #[.cell p 59, .tmp u]) (tmps : Array Value) {w : World} {B : Nat} {f : Nat → Int} {b : Bool} (hp : tmps.getD p undef = .pointer (some ⟨B, 0, none⟩)) (hu : tmps.getD u undef = .bool b) (hB : Blk9 w B f) :
    (results fn tmps).run Try.prog w = .ok (.tuple #[a9 f, .bool b]) w := by
  rw [results_cell_tmp h, hp, hu]
  have := run_loadVar_row w B 59 59 (c9 f) (0, 0) _ hB Try.underlying59 rfl info9
  simp only [asAddr, Sem.run_pure, Result.andThen_ok, this]
  rfl

theorem three_new (w : World) (s : Value) :
    let wb := ((w.alloc (.cells #[s] 25)).alloc (.cells #[.int .i64 0, .int .i64 0, .int .i64 0, .int .i64 0, .int .i64 0, .int .i64 0, .int .i64 0, .int .i64 0, .int .i64 0] 59)).alloc (.cells #[.int .i64 0, .int .i64 0, .int .i64 0, .int .i64 0, .int .i64 0, .int .i64 0, .int .i64 0, .int .i64 0, .int .i64 0] 59)
    wb.cell? ⟨w.heap.size, 0, none⟩ = some s ∧ Blk9 wb (w.heap.size + 1) (fun _ => 0) ∧ Blk9 wb (w.heap.size + 2) (fun _ => 0) ∧ w.grownBy wb none := by
  intro wb
  have g0 : w.grownBy (w.alloc (.cells #[s] 25)) none := World.grownBy_alloc _ _ none
  have n0 : (w.alloc (.cells #[s] 25)).cell? ⟨w.heap.size, 0, none⟩ = some s := by simp
  have hsa : (w.alloc (.cells #[s] 25)).heap.size = w.heap.size + 1 := by simp
  have hb0 := Blk9.new (w.alloc (.cells #[s] 25)) (fun _ => 0)
  rw [hsa] at hb0
  have hs1 : ((w.alloc (.cells #[s] 25)).alloc (.cells (c9 fun _ => 0) 59)).heap.size = w.heap.size + 2 := by simp
  have hb1 := Blk9.new ((w.alloc (.cells #[s] 25)).alloc (.cells (c9 fun _ => 0) 59)) (fun _ => 0)
  rw [hs1] at hb1
  have gA : (w.alloc (.cells #[s] 25)).grownBy ((w.alloc (.cells #[s] 25)).alloc (.cells (c9 fun _ => 0) 59)) none := World.grownBy_alloc _ _ none
  have gB : ((w.alloc (.cells #[s] 25)).alloc (.cells (c9 fun _ => 0) 59)).grownBy wb none := World.grownBy_alloc _ _ none
  exact ⟨(grownBy_trans gA gB).cell n0 (by simp), hb0.grown gB, hb1, grownBy_trans g0 (grownBy_trans gA gB)⟩

/-- What nineOf's copy does. -/
theorem copy9 {w : World} {B : Nat} {f : Nat → Int} (hX : Blk9 w B f) {a : Option Addr} {xs : List Int} (cap : Nat) (h : IntsAt w a xs) (hl : xs.length = 9) (ty : TypeId) :
    (Builtin.copy_ #[23, 23] ty #[.slice (some ⟨B, 0, none⟩) 9 9, .slice a xs.length cap]).run Try.prog w = .ok (.int .i64 9) (w.setCells B 0 (v9 fun k => xs.getD k 0)) := by
  rcases h.2 with h0 | ⟨bx, ox, rfl, hbx, hcx⟩
  · rw [h0] at hl; simp at hl
  · have := run_copy_cells (P := Try.prog) w 23 23 ty 3 B 0 9 9 ⟨bx, ox, none⟩ xs.length cap (v9 fun k => xs.getD k 0) Try.underlying23 sizeInt (by rw [hl]; rfl)
      (fun j v hv => by
        obtain ⟨hj, rfl⟩ := v9_at _ hv
        rw [add_none]
        exact hcx j (by omega))
      (fun j hj => by rw [Nat.zero_add, hX.cell (show j < 9 from hj)]; rfl) (fun j hj => hX.free _) (v9_one _)
    exact this

set_option maxHeartbeats 2000000 in
theorem nineOf_any (a : Option Addr) (cap : Nat) (xs : List Int) (w : World) (h : IntsAt w a xs) :
    Calls Try.prog 48 #[.agg #[.slice a xs.length cap]] w (NoPost xs w) := by
  have h3 := three_new w (.slice a xs.length cap)
  obtain ⟨wb, hwb⟩ : ∃ wb, wb = ((w.alloc (.cells #[.slice a xs.length cap] 25)).alloc (.cells #[.int .i64 0, .int .i64 0, .int .i64 0, .int .i64 0, .int .i64 0, .int .i64 0, .int .i64 0, .int .i64 0, .int .i64 0] 59)).alloc (.cells #[.int .i64 0, .int .i64 0, .int .i64 0, .int .i64 0, .int .i64 0, .int .i64 0, .int .i64 0, .int .i64 0, .int .i64 0] 59) := ⟨_, rfl⟩
  simp only [← hwb] at h3
  obtain ⟨n1, hR, hX, gw⟩ := h3
  have ct := tok_any a cap xs wb (h.grown gw)
  have H := Lib.hid h
  have HR := Lib.hid hR
  have HX := Lib.hid hX
  have GW := Lib.hid gw
  have n2 := n1
  rw [hwb] at n2
  clear h hR hX gw
  go_enter Try.func48, Try.ntmps48
  go_wp2_with fail
  rw [← hwb]
  clear hwb n2
  refine ct.mono ?_
  rintro e w2 ⟨rfl, g2⟩
  have gg := grownBy_trans GW.out g2
  have n3 := g2.cell n1 (by simp)
  have R2 := HR.out.grown g2
  have X2 := HX.out.grown g2
  have H2 := Lib.hid (H.out.grown gg)
  have GG := Lib.hid gg
  clear ct g2 gg n1 HR HX GW
  cases ht : triB xs
  · obtain ⟨a0, a1, a2, a3, a4, a5, a6, a7, a8⟩ := X2.cells
    obtain ⟨b0, b1, b2, b3, b4, b5, b6, b7, b8⟩ := R2.cells
    obtain ⟨d0, d1, d2, d3, d4, d5, d6, d7, d8⟩ := R2.frees
    have hput := Lib.hid (R2.put (fun _ => 0))
    have gput := Lib.hid (grow_at GG.out (grow_cps (w := w2) (w.heap.size + 1) (fun _ => 0)) (by omega))
    have hT := Lib.hid ht
    clear X2 R2 ht
    go_wp2_with fail
    refine bodyPost_ret (resNo rfl _ rfl rfl hput.out) rfl ⟨by rw [fT_f hT.out, hT.out], gput.out⟩
  · have hl := (triB_of ht).1
    have hdr : w2.grownBy w2.drew none := grownBy_drew (grownBy_refl _ _)
    have hcp := fun ty => copy9 (X2.grown hdr) cap (H2.out.grown hdr) hl ty
    have gX := grow_cps (w := w2.drew) (w.heap.size + 2) (fun k => xs.getD k 0)
    have hX3 := (X2.grown hdr).cps (fun k => xs.getD k 0)
    have hR3 := (R2.grown hdr).kept gX (by simp)
    have gg3 := grow_at (grownBy_drew GG.out) gX (by omega)
    generalize hw3 : w2.drew.setCells (w.heap.size + 2) 0 (v9 fun k => xs.getD k 0) = w3 at *
    obtain ⟨a0, a1, a2, a3, a4, a5, a6, a7, a8⟩ := hX3.cells
    obtain ⟨b0, b1, b2, b3, b4, b5, b6, b7, b8⟩ := hR3.cells
    obtain ⟨d0, d1, d2, d3, d4, d5, d6, d7, d8⟩ := hR3.frees
    have hput := Lib.hid (hR3.put (fun k => xs.getD k 0))
    have gput := Lib.hid (grow_at gg3 (grow_cps (w := w3) (w.heap.size + 1) (fun k => xs.getD k 0)) (by omega))
    have hT := Lib.hid ht
    clear X2 R2 ht hX3 hR3 gX gg3 hdr hw3 hl
    go_wp2_with fail
    go_region
    go_wp2_with fail
    refine bodyPost_ret (resNo rfl _ rfl rfl hput.out) rfl ⟨by rw [fT_t hT.out, hT.out], gput.out⟩

end Go.Proofs.Ytbhfbpmfbknalaa
