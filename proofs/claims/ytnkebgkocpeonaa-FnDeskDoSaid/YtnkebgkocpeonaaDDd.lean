/-
  The draw of a desk with a deed.
-/
import Derived.Test.YtnkebgkocpeonaaDDk
import Derived.Test.YtnkebgkocpeonaaDDraw
import Derived.Laws.ResultCell
namespace Go.Proofs.Ytnkebgkocpeonaa
open Go.RowKit

theorem results_two {fn : Func} {p q : Tmp} {t u : TypeId} (h : fn.results = #[.cell p t, .cell q u]) (tmps : Array Value) (P : Program) (w : World) :
    (results fn tmps).run P w = ((asAddr (tmps.getD p undef)).run P w).andThen fun a w₁ => ((loadVar t a).run P w₁).andThen fun v w₂ => ((asAddr (tmps.getD q undef)).run P w₂).andThen fun b w₃ => ((loadVar u b).run P w₃).andThen fun x w₄ => .ok (.tuple #[v, x]) w₄ := by
  simp only [results, h]
  simp [Sem.run_bind, Result.andThen]
theorem resDkD {fn : Func} {p q : Tmp} (h : fn.results = #[.cell p 31, .cell q 39]) (tmps : Array Value) {w : World} {B C : Nat} {x y z i j k : Value} (hp : tmps.getD p undef = .pointer (some ⟨B, 0, none⟩)) (hq : tmps.getD q undef = .pointer (some ⟨C, 0, none⟩)) (hB : CellsAt w B #[x, y, z] 31) (hC : CellsAt w C #[i, j, k] 39) :
    (results fn tmps).run Try.prog w = .ok (.tuple #[.agg #[x, y, z], .agg #[i, j, k]]) w := by
  rw [results_two h, hp, hq]
  have h1 := run_loadVar_row w B 31 31 #[x, y, z] (0, 0) _ hB Try.underlying31 rfl sizeDk
  have h2 := run_loadVar_row w C 39 39 #[i, j, k] (0, 0) _ hC Try.underlying39 rfl sizeDd
  simp only [asAddr, Sem.run_pure, Result.andThen_ok, h1, h2]

/-- What lies where while the desk and the deed are handed out. -/
def DdS (w0 W : World) (c : Nat) (u v x p q t m s y : Value) : Prop :=
  CellsAt W w0.heap.size #[u, v, x] 31 ∧ CellsAt W (w0.heap.size + 1) #[p, q, t] 39 ∧ CellsAt W c #[m, s, y] 31 ∧ w0.grownBy W none ∧ w0.heap.size + 2 < c
def DdF (W : World) (b : Nat) (u v x : Value) : Prop := (W.cell? ⟨b, 0, none⟩ = some u ∧ W.cell? ⟨b, 1, none⟩ = some v ∧ W.cell? ⟨b, 2, none⟩ = some x) ∧ W.frozen? ⟨b, 0, none⟩ = false ∧ W.frozen? ⟨b, 1, none⟩ = false ∧ W.frozen? ⟨b, 2, none⟩ = false
theorem DdS.facts {w0 W : World} {c : Nat} {u v x p q t m s y : Value} (h : DdS w0 W c u v x p q t m s y) : DdF W w0.heap.size u v x ∧ DdF W (w0.heap.size + 1) p q t ∧ DdF W c m s y := ⟨three_facts h.1, set_facts h.2.1, three_facts h.2.2.1⟩
theorem DdS.put {w0 W : World} {c : Nat} {u v x p q t m s y : Value} (h : DdS w0 W c u v x p q t m s y) (a b d : Value) : DdS w0 (((W.setCell ⟨w0.heap.size, 0, none⟩ a).setCell ⟨w0.heap.size, 1, none⟩ b).setCell ⟨w0.heap.size, 2, none⟩ d) c a b d p q t m s y :=
  ⟨h.1.put3 _ _ _, h.2.1.kept (put3_past W _ _ _ _) (by simp), h.2.2.1.kept (put3_past W _ _ _ _) (by have := h.2.2.2.2; simp; omega), put3_grown _ h.2.2.2.1 (Nat.le_refl _) _ _ _, h.2.2.2.2⟩
theorem DdS.put2 {w0 W : World} {c : Nat} {u v x p q t m s y : Value} (h : DdS w0 W c u v x p q t m s y) (a b d : Value) : DdS w0 (((W.setCell ⟨w0.heap.size + 1, 0, none⟩ a).setCell ⟨w0.heap.size + 1, 1, none⟩ b).setCell ⟨w0.heap.size + 1, 2, none⟩ d) c u v x a b d m s y :=
  ⟨h.1.kept (put3_past W _ _ _ _) (by simp), h.2.1.put3 _ _ _, h.2.2.1.kept (put3_past W _ _ _ _) (by have := h.2.2.2.2; simp; omega), put3_grown _ h.2.2.2.1 (by omega) _ _ _, h.2.2.2.2⟩
theorem DdS.call {w0 W W' : World} {c : Nat} {u v x p q t m s y : Value} (h : DdS w0 W c u v x p q t m s y) (hg : W.grownBy W' (some (w0.heap.size + 2))) : DdS w0 W' c u v x p q t m s y :=
  ⟨h.1.kept hg (by simp), h.2.1.kept hg (by simp), h.2.2.1.kept hg (by have := h.2.2.2.2; simp; omega), ⟨hg.os.trans h.2.2.2.1.os, hg.tape.trans h.2.2.2.1.tape, hg.output.trans h.2.2.2.1.output, Nat.le_trans h.2.2.2.1.size hg.size, fun k hk hn => (hg.block k (Nat.lt_of_lt_of_le hk h.2.2.2.1.size) (by simp; omega)).trans (h.2.2.2.1.block k hk hn)⟩, h.2.2.2.2⟩
theorem DdS.drew {w0 W : World} {c : Nat} {u v x p q t m s y : Value} (h : DdS w0 W c u v x p q t m s y) : DdS w0 W.drew c u v x p q t m s y := ⟨h.1, h.2.1, h.2.2.1, grownBy_drew h.2.2.2.1, h.2.2.2.2⟩

def DdoPost (w : World) (e : Ending) (w' : World) : Prop := ∃ (d : Dk) (a : Option Addr) (cap : Nat) (D : Dd), e = .returned (.tuple #[dkV d a cap, .agg #[.int .i64 D.1, .int .i64 D.2.1, .string (bs D.2.2)]]) ∧ LdsAt w' a d.2 ∧ (a = none → cap = 0) ∧ D.2.2.length ≤ 100 ∧ w.grownBy w' none

set_option maxRecDepth 8000 in
set_option maxHeartbeats 8000000 in
theorem DrawDeskDo_any (a : Option Addr) (len cap : Nat) (zs : List Int) (w : World) (h : IsRow .u8 w a len cap zs) :
    Calls Try.prog 25 #[.slice a len cap] w (DdoPost w) := by
  have g0 : w.grownBy ((w.alloc (.cells #[.int .i64 0, .string ⟨#[]⟩, .slice none 0 0] 31)).alloc (.cells #[.int .i64 0, .int .i64 0, .string ⟨#[]⟩] 39)) none := grownBy_trans (World.grownBy_alloc w _ none) (World.grownBy_alloc _ _ none)
  have hB := CellsAt.first w (.cells #[.int .i64 0, .int .i64 0, .string ⟨#[]⟩] 39) #[.int .i64 0, .string ⟨#[]⟩, .slice none 0 0] 31
  have hC := CellsAt.second w (.cells #[.int .i64 0, .string ⟨#[]⟩, .slice none 0 0] 31) #[.int .i64 0, .int .i64 0, .string ⟨#[]⟩] 39
  have ha := h.up g0
  have hR : ((w.alloc (.cells #[.int .i64 0, .string ⟨#[]⟩, .slice none 0 0] 31)).alloc (.cells #[.int .i64 0, .int .i64 0, .string ⟨#[]⟩] 39)).heap.size = w.heap.size + 2 := by show ((w.heap.push _).push _).size = _; rw [Array.size_push, Array.size_push]
  have HR := Lib.hid hR
  have co := open_draw a len cap zs _ ha
  unfold OpenPost at co
  rw [hR] at co
  have HB := Lib.hid hB
  have HC := Lib.hid hC
  have G0 := Lib.hid g0
  clear h hB hC g0 hR ha
  go_enter Try.func25, Try.ntmps25
  go_wp2_with fail
  refine co.mono ?_
  rintro e w1 ⟨rfl, hr1, hg1⟩
  have cd := desk_draw (fun w r P hr hP => deed_draw w r P hr hP) 12 w1 (w.heap.size + 2) 0 hr1 (by omega) (by omega) (by omega)
  have hl1 := hr1.lt
  clear co
  go_wp2_with fail
  refine cd.mono ?_
  rintro e w2 ⟨d, a, cap, rfl, ho, hr2, hg2⟩
  obtain ⟨⟨m, s⟩, xs⟩ := d
  have hgg := grownBy_own hg1 (by rw [HR.out]; exact hg2)
  have hl2 := hr2.lt
  have S0 := Lib.hid (show DdS w (w2.alloc (.cells #[.int .i64 m, .string (bs s), .slice a xs.length cap] 31)) w2.heap.size (.int .i64 0) (.string ⟨#[]⟩) (.slice none 0 0) (.int .i64 0) (.int .i64 0) (.string ⟨#[]⟩) (.int .i64 m) (.string (bs s)) (.slice a xs.length cap) from ⟨(HB.out.grown hgg).grown (World.grownBy_alloc _ _ none), (HC.out.grown hgg).grown (World.grownBy_alloc _ _ none), CellsAt.new w2 _ _, grownBy_trans (grownBy_trans G0.out hgg) (World.grownBy_alloc _ _ none), hl2⟩)
  have hr3 := hr2.alloc (.cells #[.int .i64 m, .string (bs s), .slice a xs.length cap] 31)
  have ho3 := Lib.hid (ho.kept (World.grownBy_alloc w2 (.cells #[.int .i64 m, .string (bs s), .slice a xs.length cap] 31) none))
  clear ho hr2 hg2 hg1 hr1 hgg cd
  unfold dkV
  go_wp2_with fail
  generalize w2.alloc (.cells #[.int .i64 m, .string (bs s), .slice a xs.length cap] 31) = W at *
  generalize w2.heap.size = c at *
  obtain ⟨⟨⟨d0, d1, d2⟩, f0, f1, f2⟩, ⟨⟨e0, e1, e2⟩, i0, i1, i2⟩, ⟨⟨z0, z1, z2⟩, y0, y1, y2⟩⟩ := S0.out.facts
  go_region_with (go_at_call 57; (with_reducible refine (deed_draw _ (w.heap.size + 2) 700 hr3.drewn (by omega)).mono ?_); rintro e wa ⟨D, rfl, hDl, hra, hga⟩; have h1 := Lib.hid (grownBy_undrew hga); have S1 := Lib.hid (S0.out.call h1.out); have S2 := Lib.hid (S1.out.put (.int .i64 m) (.string (bs s)) (.slice a xs.length cap)); have S3 := Lib.hid (S2.out.put2 (.int .i64 D.1) (.int .i64 D.2.1) (.string (bs D.2.2))); have HO := Lib.hid ((ho3.out.past h1.out (by omega)).past (put3_past wa w.heap.size (.int .i64 m) (.string (bs s)) (.slice a xs.length cap)) (by omega)); obtain ⟨⟨⟨d0, d1, d2⟩, f0, f1, f2⟩, ⟨⟨e0, e1, e2⟩, i0, i1, i2⟩, ⟨⟨z0, z1, z2⟩, y0, y1, y2⟩⟩ := S1.out.facts; obtain ⟨⟨⟨p0, p1, p2⟩, q0, q1, q2⟩, ⟨⟨t0, t1, t2⟩, v0, v1, v2⟩, ⟨⟨x0, x1, x2⟩, u0, u1, u2⟩⟩ := S2.out.facts)
  all_goals go_wp2_with fail
  all_goals exact bodyPost_ret (v := .tuple #[.agg #[.int .i64 m, .string (bs s), .slice a xs.length cap], .agg #[.int .i64 D.1, .int .i64 D.2.1, .string (bs D.2.2)]]) (resDkD rfl _ rfl rfl S3.out.1 S3.out.2.1) rfl ⟨((m, s), xs), a, cap, D, rfl, (HO.out.past (put3_past _ (w.heap.size + 1) (.int .i64 D.1) (.int .i64 D.2.1) (.string (bs D.2.2))) (by omega)).at, HO.out.bare, hDl, S3.out.2.2.2.1⟩

end Go.Proofs.Ytnkebgkocpeonaa
