/-
  The law of PutInto: what it draws, and the walk's pieces.
-/
import Derived.Test.YtbhfbpmfbknalaaTL1
import Derived.Test.YtbhfbpmfbknalaaTSp
namespace Go.Proofs.Ytbhfbpmfbknalaa
open Go.RowKit

def ThreeTbl (w : World) (e : Ending) (w' : World) : Prop := ∃ a ca x b cb y c cc z, e = .returned (.tuple #[.agg #[.slice a (x : List Int).length ca], .agg #[.slice b (y : List Int).length cb], .agg #[.slice c (z : List Int).length cc]]) ∧ IntsAt w' a x ∧ IntsAt w' b y ∧ IntsAt w' c z ∧ w.grownBy w' none
theorem resT4 {fn : Func} {p q s : Tmp} (h : fn.results = #[.cell p 25, .cell q 25, .cell s 25]) (tmps : Array Value) {w : World} {B C D : Nat} {u v x : Value} (hp : tmps.getD p undef = .pointer (some ⟨B, 0, none⟩)) (hq : tmps.getD q undef = .pointer (some ⟨C, 0, none⟩)) (hs : tmps.getD s undef = .pointer (some ⟨D, 0, none⟩)) (hB : T1 w B u) (hC : T1 w C v) (hD : T1 w D x) :
    (results fn tmps).run Try.prog w = .ok (.tuple #[.agg #[u], .agg #[v], .agg #[x]]) w := by
  have l1 := run_loadVar_row w B 25 25 #[u] (0, 0) _ hB Try.underlying25 rfl sizeT
  have l2 := run_loadVar_row w C 25 25 #[v] (0, 0) _ hC Try.underlying25 rfl sizeT
  have l3 := run_loadVar_row w D 25 25 #[x] (0, 0) _ hD Try.underlying25 rfl sizeT
  have hp' : tmps[p]?.getD undef = .pointer (some ⟨B, 0, none⟩) := by simpa using hp
  have hq' : tmps[q]?.getD undef = .pointer (some ⟨C, 0, none⟩) := by simpa using hq
  have hs' : tmps[s]?.getD undef = .pointer (some ⟨D, 0, none⟩) := by simpa using hs
  simp [results, h, hp', hq', hs', asAddr, l1, l2, l3]

theorem sn_three (w : World) :
    let wb := ((w.alloc (.cells #[.slice none 0 0] 25)).alloc (.cells #[.slice none 0 0] 25)).alloc (.cells #[.slice none 0 0] 25)
    T1 wb w.heap.size (.slice none 0 0) ∧ T1 wb (w.heap.size + 1) (.slice none 0 0) ∧ T1 wb (w.heap.size + 2) (.slice none 0 0) ∧ w.grownBy wb none := by
  intro wb
  obtain ⟨t1, t2, g⟩ := sn_pair w
  generalize hw : (w.alloc (.cells #[.slice none 0 0] 25)).alloc (.cells #[.slice none 0 0] 25) = wc at *
  have hs : wc.heap.size = w.heap.size + 2 := by rw [← hw]; simp
  have hwb : wb = wc.alloc (.cells #[.slice none 0 0] 25) := by rw [← hw]
  have g2 : wc.grownBy (wc.alloc (.cells #[.slice none 0 0] 25)) none := World.grownBy_alloc _ _ none
  have t3 := T1.new wc (.slice none 0 0)
  rw [hs] at t3
  rw [hwb]
  exact ⟨t1.grown g2, t2.grown g2, t3, grownBy_trans g g2⟩

set_option maxHeartbeats 2000000 in
theorem DrawPutInto_any (a : Option Addr) (len cap : Nat) (zs : List Int) (w : World) (h : IsRow .u8 w a len cap zs) :
    Calls Try.prog 30 #[.slice a len cap] w (ThreeTbl w) := by
  obtain ⟨p1, p2, p3, pg⟩ := sn_three w
  obtain ⟨v0, hv0⟩ : ∃ v0, v0 = ((w.alloc (.cells #[.slice none 0 0] 25)).alloc (.cells #[.slice none 0 0] 25)).alloc (.cells #[.slice none 0 0] 25) := ⟨_, rfl⟩
  simp only [← hv0] at p1 p2 p3 pg
  have P1 := Lib.hid p1
  have P2 := Lib.hid p2
  have P3 := Lib.hid p3
  have HG := Lib.hid pg
  have co := open_draw a len cap zs _ (h.grown' pg)
  have hs0 : w.heap.size + 3 ≤ v0.heap.size := p3.lt
  clear h p1 p2 p3 pg
  go_enter Try.func30, Try.ntmps30
  go_wp2_with fail
  rw [← hv0]
  clear hv0
  refine co.mono ?_
  rintro e w1 ⟨rfl, hr1, hg1⟩
  clear co
  go_wp2_with fail
  refine (tbl_draw 20 (by omega) w1 _ 0 hr1 (by omega)).mono ?_
  rintro e w2 ⟨a2, ca, x, rfl, hI2, hge2, hr2, hg2⟩
  go_wp2_with fail
  refine (tbl_draw 20 (by omega) w2 _ _ hr2 (by omega)).mono ?_
  rintro e w3 ⟨b2, cb, y, rfl, hI3, hge3, hr3, hg3⟩
  go_wp2_with fail
  refine (tbl_draw 20 (by omega) w3 _ _ hr3 (by omega)).mono ?_
  rintro e w4 ⟨c2, cc, z, rfl, hI4, hge4, hr4, hg4⟩
  have l1 := hr1.lt
  have l2 := hg1.size
  have l3 := hg2.size
  have l4 := hg3.size
  have g04 := grownBy_own hg1 (grownBy_trans hg2 (grownBy_trans hg3 hg4))
  have hX := hI2.kept (grownBy_trans hg3 hg4) (fun q hq => by have := hge2 q hq; simp; omega)
  have hY := hI3.kept hg4 (fun q hq => by have := hge3 q hq; simp; omega)
  have q1 := P1.out.grown g04
  have q2 := P2.out.grown g04
  have q3 := P3.out.grown g04
  have k1 : w4.grownBy (w4.setCell ⟨w.heap.size, 0, none⟩ (.slice a2 x.length ca)) (some w.heap.size) := grownBy_set w4 w.heap.size 0 _
  have q4 := q1.set (v := .slice a2 x.length ca)
  have q5 := q2.kept k1 (by simp)
  have q6 := q3.kept k1 (by simp)
  have m1 := q1.cell
  have f1 := q1.free
  have m2 := q5.cell
  have f2 := q5.free
  have X1 := hX.kept k1 (fun q hq => by have := hge2 q hq; simp; omega)
  have Y1 := hY.kept k1 (fun q hq => by have := hge3 q hq; simp; omega)
  have Z1 := hI4.kept k1 (fun q hq => by have := hge4 q hq; simp; omega)
  have G1 := grow_at (grownBy_trans HG.out g04) k1 (Nat.le_refl _)
  generalize hv1 : w4.setCell ⟨w.heap.size, 0, none⟩ (.slice a2 x.length ca) = v1 at *
  have k2 : v1.grownBy (v1.setCell ⟨w.heap.size + 1, 0, none⟩ (.slice b2 y.length cb)) (some (w.heap.size + 1)) := grownBy_set v1 (w.heap.size + 1) 0 _
  have r4 := q4.kept k2 (by simp)
  have r5 := q5.set (v := .slice b2 y.length cb)
  have r6 := q6.kept k2 (by simp)
  have m3 := r6.cell
  have f3 := r6.free
  have X2 := X1.kept k2 (fun q hq => by have := hge2 q hq; simp; omega)
  have Y2 := Y1.kept k2 (fun q hq => by have := hge3 q hq; simp; omega)
  have Z2 := Z1.kept k2 (fun q hq => by have := hge4 q hq; simp; omega)
  have G2 := grow_at G1 k2 (by omega)
  generalize hv2 : v1.setCell ⟨w.heap.size + 1, 0, none⟩ (.slice b2 y.length cb) = v2 at *
  have k3 : v2.grownBy (v2.setCell ⟨w.heap.size + 2, 0, none⟩ (.slice c2 z.length cc)) (some (w.heap.size + 2)) := grownBy_set v2 (w.heap.size + 2) 0 _
  have S4 := Lib.hid (r4.kept k3 (by simp))
  have S5 := Lib.hid (r5.kept k3 (by simp))
  have S6 := Lib.hid (r6.set (v := .slice c2 z.length cc))
  have FX := Lib.hid (X2.kept k3 (fun q hq => by have := hge2 q hq; simp; omega))
  have FY := Lib.hid (Y2.kept k3 (fun q hq => by have := hge3 q hq; simp; omega))
  have FZ := Lib.hid (Z2.kept k3 (fun q hq => by have := hge4 q hq; simp; omega))
  have FG := Lib.hid (grow_at G2 k3 (by omega))
  clear hI2 hge2 hr2 hI3 hge3 hr3 hI4 hge4 hr4 hg2 hg3 hg4 hg1 hr1 l1 l2 l3 l4 g04 hX hY q1 q2 q3 q4 q5 q6 k1 k2 k3 X1 Y1 Z1 X2 Y2 Z2 G1 G2 r4 r5 r6 hs0
  go_wp2_with fail
  exact bodyPost_ret (resT4 rfl _ rfl rfl rfl S4.out S5.out S6.out) rfl ⟨a2, ca, x, b2, cb, y, c2, cc, z, rfl, FX.out, FY.out, FZ.out, FG.out⟩

end Go.Proofs.Ytbhfbpmfbknalaa
