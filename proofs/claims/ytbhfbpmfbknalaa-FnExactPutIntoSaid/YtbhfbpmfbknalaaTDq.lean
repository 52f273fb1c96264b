/-
  What the laws of chapter 10 draw.
-/
import Derived.Test.YtbhfbpmfbknalaaTDr
namespace Go.Proofs.Ytbhfbpmfbknalaa
open Go.RowKit

def OneTbl (w : World) (e : Ending) (w' : World) : Prop := ∃ a cap xs, e = .returned (.agg #[.slice a xs.length cap]) ∧ IntsAt w' a xs ∧ w.grownBy w' none
theorem IsRow.grown' {k : IntKind} {w w' : World} {a : Option Addr} {len cap : Nat} {zs : List Int} (h : IsRow k w a len cap zs) (g : w.grownBy w' none) : IsRow k w' a len cap zs := by
  rcases h with h | ⟨x, h1, h2, h3, h4, h5, h6⟩
  · exact .inl h
  · exact .inr ⟨x, h1, h2, h3, h4, fun i hi => g.cell (h5 i hi) (by simp), h6⟩

theorem DrawTableOk_any (a : Option Addr) (len cap : Nat) (zs : List Int) (w : World) (h : IsRow .u8 w a len cap zs) :
    Calls Try.prog 15 #[.slice a len cap] w (OneTbl w) := by
  have g1 : w.grownBy (w.alloc (.cells #[.slice none 0 0] 25)) none := World.grownBy_alloc _ _ none
  have HZ := Lib.hid (T1.new w (.slice none 0 0))
  have HG := Lib.hid g1
  have co := open_draw a len cap zs _ (h.grown' g1)
  clear h g1
  go_enter Try.func15, Try.ntmps15
  go_wp2_with fail
  generalize hv0 : w.alloc (.cells #[.slice none 0 0] 25) = v0 at *
  clear hv0
  refine co.mono ?_
  rintro e w1 ⟨rfl, hr1, hg1⟩
  clear co
  go_wp2_with fail
  refine (tbl_draw 2 (by omega) w1 _ 0 hr1 (by omega)).mono ?_
  rintro e w2 ⟨a2, cap2, xs, rfl, hI, hge, hr2, hg2⟩
  have g02 := grownBy_own hg1 hg2
  have hZ2 := HZ.out.grown g02
  have m1 := hZ2.cell
  have f1 := hZ2.free
  have hlt := HZ.out.lt
  have hgs : w2.grownBy (w2.setCell ⟨w.heap.size, 0, none⟩ (.slice a2 xs.length cap2)) (some w.heap.size) := grownBy_set w2 w.heap.size 0 _
  have FI := Lib.hid (hI.kept hgs (fun z hz => by have := hge z hz; have := hg1.size; simp; omega))
  have FG := Lib.hid (grow_at (grownBy_trans HG.out g02) hgs (Nat.le_refl _))
  have R := Lib.hid (hZ2.set (v := .slice a2 xs.length cap2))
  clear hI hge hr2 hg2 g02 hZ2 hgs hg1 hr1
  go_wp2_with fail
  exact bodyPost_ret (resT1 rfl _ rfl R.out) rfl ⟨a2, cap2, xs, rfl, FI.out, FG.out⟩

theorem DrawRegularOk_any (a : Option Addr) (len cap : Nat) (zs : List Int) (w : World) (h : IsRow .u8 w a len cap zs) :
    Calls Try.prog 28 #[.slice a len cap] w (OneTbl w) := by
  have g1 : w.grownBy (w.alloc (.cells #[.slice none 0 0] 25)) none := World.grownBy_alloc _ _ none
  have HZ := Lib.hid (T1.new w (.slice none 0 0))
  have HG := Lib.hid g1
  have co := open_draw a len cap zs _ (h.grown' g1)
  clear h g1
  go_enter Try.func28, Try.ntmps28
  go_wp2_with fail
  generalize hv0 : w.alloc (.cells #[.slice none 0 0] 25) = v0 at *
  clear hv0
  refine co.mono ?_
  rintro e w1 ⟨rfl, hr1, hg1⟩
  clear co
  go_wp2_with fail
  refine (tbl_draw 9 (by omega) w1 _ 0 hr1 (by omega)).mono ?_
  rintro e w2 ⟨a2, cap2, xs, rfl, hI, hge, hr2, hg2⟩
  have g02 := grownBy_own hg1 hg2
  have hZ2 := HZ.out.grown g02
  have m1 := hZ2.cell
  have f1 := hZ2.free
  have hlt := HZ.out.lt
  have hgs : w2.grownBy (w2.setCell ⟨w.heap.size, 0, none⟩ (.slice a2 xs.length cap2)) (some w.heap.size) := grownBy_set w2 w.heap.size 0 _
  have FI := Lib.hid (hI.kept hgs (fun z hz => by have := hge z hz; have := hg1.size; simp; omega))
  have FG := Lib.hid (grow_at (grownBy_trans HG.out g02) hgs (Nat.le_refl _))
  have R := Lib.hid (hZ2.set (v := .slice a2 xs.length cap2))
  clear hI hge hr2 hg2 g02 hZ2 hgs hg1 hr1
  go_wp2_with fail
  exact bodyPost_ret (resT1 rfl _ rfl R.out) rfl ⟨a2, cap2, xs, rfl, FI.out, FG.out⟩

def TaPost (w : World) (e : Ending) (w' : World) : Prop := ∃ a cap xs, ∃ p q : Int, e = .returned (.tuple #[.agg #[.slice a xs.length cap], .int .i64 p, .int .i64 q]) ∧ IntsAt w' a xs ∧ w.grownBy w' none
theorem resT3 {fn : Func} {p u v : Tmp} (h : fn.results = #[.cell p 25, .tmp u, .tmp v]) (tmps : Array Value) {w : World} {B : Nat} {s x y : Value} (hp : tmps.getD p undef = .pointer (some ⟨B, 0, none⟩)) (hu : tmps.getD u undef = x) (hv : tmps.getD v undef = y) (hB : T1 w B s) :
    (results fn tmps).run Try.prog w = .ok (.tuple #[.agg #[s], x, y]) w := by
  have hl := run_loadVar_row w B 25 25 #[s] (0, 0) _ hB Try.underlying25 rfl sizeT
  have hp' : tmps[p]?.getD undef = .pointer (some ⟨B, 0, none⟩) := by simpa using hp
  have hu' : tmps[u]?.getD undef = x := by simpa using hu
  have hv' : tmps[v]?.getD undef = y := by simpa using hv
  simp [results, h, hp', hu', hv', asAddr, hl]

set_option maxHeartbeats 2000000 in
theorem DrawTableAt_any (a : Option Addr) (len cap : Nat) (zs : List Int) (w : World) (h : IsRow .u8 w a len cap zs) :
    Calls Try.prog 19 #[.slice a len cap] w (TaPost w) := by
  have g1 : w.grownBy (w.alloc (.cells #[.slice none 0 0] 25)) none := World.grownBy_alloc _ _ none
  have HZ := Lib.hid (T1.new w (.slice none 0 0))
  have HG := Lib.hid g1
  have co := open_draw a len cap zs _ (h.grown' g1)
  clear h g1
  go_enter Try.func19, Try.ntmps19
  go_wp2_with fail
  generalize hv0 : w.alloc (.cells #[.slice none 0 0] 25) = v0 at *
  clear hv0
  refine co.mono ?_
  rintro e w1 ⟨rfl, hr1, hg1⟩
  clear co
  go_wp2_with fail
  refine (tbl_draw 12 (by omega) w1 _ 0 hr1 (by omega)).mono ?_
  rintro e w2 ⟨a2, cap2, xs, rfl, hI, hge, hr2, hg2⟩
  go_wp2_with fail
  refine (pick_any 3 w2 _ _ hr2 (by omega)).mono ?_
  rintro e w3 ⟨k3, rfl, l3, u3, hr3, hg3⟩
  go_wp2_with fail
  refine (pick_any 20 w3 _ _ hr3 (by omega)).mono ?_
  rintro e w4 ⟨k4, rfl, l4, u4, hr4, hg4⟩
  have t4 : k4.tdiv 19 = k4 / 19 := Int.tdiv_eq_ediv_of_nonneg l4
  have b4 : 0 ≤ k4 / 19 ∧ k4 / 19 ≤ 1 := by omega
  generalize k4 / 19 = d4 at *
  go_wp2_with fail
  refine (pick_any 3 w4 _ _ hr4 (by omega)).mono ?_
  rintro e w5 ⟨k5, rfl, l5, u5, hr5, hg5⟩
  go_wp2_with fail
  refine (pick_any 20 w5 _ _ hr5 (by omega)).mono ?_
  rintro e w6 ⟨k6, rfl, l6, u6, hr6, hg6⟩
  have t6 : k6.tdiv 19 = k6 / 19 := Int.tdiv_eq_ediv_of_nonneg l6
  have b6 : 0 ≤ k6 / 19 ∧ k6 / 19 ≤ 1 := by omega
  generalize k6 / 19 = d6 at *
  have hg26 := grownBy_trans hg3 (grownBy_trans hg4 (grownBy_trans hg5 hg6))
  have g06 := grownBy_own hg1 (grownBy_trans hg2 hg26)
  have hI6 := hI.kept hg26 (fun z hz => by have := hge z hz; have := hr1.lt; simp; omega)
  have hZ2 := HZ.out.grown g06
  have m1 := hZ2.cell
  have f1 := hZ2.free
  have hlt := HZ.out.lt
  have hgs : w6.grownBy (w6.setCell ⟨w.heap.size, 0, none⟩ (.slice a2 xs.length cap2)) (some w.heap.size) := grownBy_set w6 w.heap.size 0 _
  have FI := Lib.hid (hI6.kept hgs (fun z hz => by have := hge z hz; have := hg1.size; simp; omega))
  have FG := Lib.hid (grow_at (grownBy_trans HG.out g06) hgs (Nat.le_refl _))
  have R := Lib.hid (hZ2.set (v := .slice a2 xs.length cap2))
  clear hI hge hr2 hg2 g06 hZ2 hgs hg1 hr1 hg3 hg4 hg5 hg6 hg26 hI6 hr3 hr4 hr5 hr6
  go_wp2_with fail
  exact bodyPost_ret (resT3 rfl _ rfl rfl rfl R.out) rfl ⟨a2, cap2, xs, _, _, rfl, FI.out, FG.out⟩

end Go.Proofs.Ytbhfbpmfbknalaa
